/- The reference's sum. Condition: the tables hold what their initialisers lay. -/
import Derived.Test.YtanfhlkfmmglhaaDoorGRt
import Derived.Test.YtanfhlkfmmglhaaDoorGRk
import Derived.Test.YtanfhlkfmmglhaaDoorGRi
import Derived.Deep.RegionHeld3
namespace Go.Proofs.YtanfhlkfmmglhaaDoor
open Go.ChangeShapes Go.WideShapes Go.ChangeAt Go.RowKit
attribute [local go_sem ↓] Go.wp_at_zero Go.wp_at_succ

theorem Sl.apart {w : World} {b off n c g Q : Nat} {x y : Bool} (h : Sl w (.slice (some ⟨b, off, none⟩) n c) (ds Q)) (ho : Own w g 53 [.bool x, .slice none 0 0, .int .i64 0, .bool y]) : b ≠ g ∨ Q = 0 := by
  by_cases hQ : Q = 0
  · exact Or.inr hQ
  · left
    rintro rfl
    have hc := h.cells
    rw [ds_step hQ] at hc
    have h0 := hc 0 _ rfl
    rw [Nat.add_zero, ho.cell off] at h0
    match off, h0 with
    | 0, h0 => simp at h0
    | 1, h0 => simp at h0
    | 2, h0 =>
      simp at h0
      have h2 : Q / 10 ≠ 0 := by omega
      rw [ds_step h2] at hc
      have h1 := hc 1 _ rfl
      rw [ho.cell 3] at h1
      simp at h1
    | 3, h0 => simp at h0
    | k + 4, h0 => simp at h0
theorem Sl.void {w : World} {v : Value} (h : Sl w v []) (p : Addr) (u : Value) : Sl (w.setCell p u) v [] := by
  obtain ⟨b, off, c, h1, h2, h3, h4, _⟩ := h
  exact ⟨b, off, c, h1, h2, h3, by simpa using h4, fun j u hj => by simp at hj⟩
theorem Sl.four {w : World} {b off n c g Q : Nat} {x y : Bool} (h : Sl w (.slice (some ⟨b, off, none⟩) n c) (ds Q)) (ho : Own w g 53 [.bool x, .slice none 0 0, .int .i64 0, .bool y]) (u0 u1 u2 u3 : Value) :
    Sl ((((w.setCell ⟨g, 0, none⟩ u0).setCell ⟨g, 1, none⟩ u1).setCell ⟨g, 2, none⟩ u2).setCell ⟨g, 3, none⟩ u3) (.slice (some ⟨b, off, none⟩) n c) (ds Q) := by
  rcases h.apart ho with hne | rfl
  · exact (((h.far hne _).far hne _).far hne _).far hne _
  · rw [ds_zero] at *
    exact (((h.void _ _).void _ _).void _ _).void _ _
set_option maxRecDepth 100000 in
set_option maxHeartbeats 8000000 in
theorem rsum_0eq (a b : Bool) (n k j : Nat) (e f : Int) (v u : Value) (w : World) (ht : Tab w) (hv : Sl w v (ds n)) (hu : Sl w u (ds k)) (hj : f - e = (j : Int)) (hab : (a == b) = true) (_hsw : e ≤ f) (hn : dg n ≤ 100) (hk : dg k ≤ 100) (hj2 : j ≤ 2000) (he : -2000 ≤ e) (he2 : e ≤ 2000) :
    Calls Tryd.prog 39 #[.agg #[.bool a, v, .int .i64 e, .bool false], .agg #[.bool b, u, .int .i64 f, .bool false]] w fun x w' => ∃ v', x = .returned (.agg #[.bool a, v', .int .i64 e, .bool false]) ∧ Sl w' v' (ds (n + k * 10 ^ j)) ∧ Kept w w' := by
  have hlt := ht.lt
  have hlt0 := ht.lt0
  have HV := Lib.hid hv
  have HU := Lib.hid hu
  obtain ⟨b1, o1, c1, rfl, _⟩ := hv.form
  obtain ⟨b2, o2, c2, rfl, _⟩ := hu.form
  clear hv hu
  generalize (ds n).length = l1 at *
  generalize (ds k).length = l2 at *
  have hd := dg_mulle k (10 ^ j)
  have hd2 : dg (10 ^ j) ≤ j + 1 := (dg_iff _ _).2 (Nat.pow_lt_pow_right (by omega) (by omega))
  have hf2 : f ≤ 4000 := by omega
  have hf1 : -2000 ≤ f := by omega
  have HS : Hid (∀ W, Tab W → Sl W (.slice (some ⟨b2, o2, none⟩) l2 c2) (ds k) → Calls Tryd.prog 47 #[.slice (some ⟨b2, o2, none⟩) l2 c2, .int .i64 (j : Int)] W fun e w' => ∃ v', e = .returned v' ∧ Sl w' v' (ds (k * 10 ^ j)) ∧ Kept W w') := Lib.hid (fun W h h2 => refshift _ k j W h h2 (by omega) (by omega))
  have HP : Hid (∀ W, Tab W → ∀ x, Sl W (.slice (some ⟨b1, o1, none⟩) l1 c1) (ds n) → Sl W x (ds (k * 10 ^ j)) → Calls Tryd.prog 77 #[.slice (some ⟨b1, o1, none⟩) l1 c1, x] W fun e w' => ∃ v', e = .returned v' ∧ Sl w' v' (ds (n + k * 10 ^ j)) ∧ Kept W w') := Lib.hid (fun W h x h1 h2 => refplus _ x n (k * 10 ^ j) W h h1 h2 (by omega) (by omega))
  clear hd hd2 hn hk
  go_enter Tryd.func39, Tryd.ntmps39
  go_upto_region 3 with fail
  have hI := Inv.three ht 53 [.bool a, .slice (some ⟨b1, o1, none⟩) l1 c1, .int .i64 e, .bool false] 53 [.bool b, .slice (some ⟨b2, o2, none⟩) l2 c2, .int .i64 f, .bool false] 53 [.bool false, .slice none 0 0, .int .i64 0, .bool false]
  go_upto_region 5 with (first | (go_at_call 47; (with_reducible refine Calls.mono (HS.out _ (by repeat' (first | (with_reducible assumption) | (with_reducible refine Tab.alloc ?_ _) | (with_reducible refine Tab.drew ?_) | (with_reducible refine Tab.drewN ?_ _) | (with_reducible refine Tab.setCell ?_ ?_ ?_ _) | omega | (simp; done) | (simp; omega))) ?_) ?_); (focus (have HU1 := HU.out; (repeat' (first | (with_reducible assumption) | (with_reducible refine Sl.alloc ?_ _) | (with_reducible refine Sl.drew ?_) | (with_reducible refine Sl.drewN ?_ _) | (with_reducible refine Sl.call ?_ (by assumption)))))); rintro e' w1 ⟨v1, rfl, hs1, hk1⟩; obtain ⟨p1, q1, r1, rfl, -⟩ := hs1.form; (obtain ⟨m1, hm1⟩ : ∃ m, (ds (k * 10 ^ j)).length = m := ⟨_, rfl⟩); have HS1 := Lib.hid hs1; rw [hm1] at HS1 ⊢; clear hs1 hm1; obtain ⟨hc1, hf1⟩ := bcell hk1.2; have ht1 := hk1.1; have hz1 := hk1.2.size; (try simp only [World.size_alloc] at hz1); (try simp only [sz_drew] at hz1); (try simp only [sz_drewN] at hz1); (try simp only [World.size_alloc] at hz1); (try simp only [sz_drew] at hc1 hf1); (try simp only [sz_drewN] at hc1 hf1); (try have hw1 : w.heap.size < w1.heap.size := by omega); (try have hv1 : w.heap.size + 1 < w1.heap.size := by omega); (try have hu1 : w.heap.size + 2 < w1.heap.size := by omega)))
  have hI2 := hI.call hk1
  clear hI hc1 hf1
  have HZ : Hid (Own w1 (w.heap.size + 1 + 1) 53 [.bool false, .slice none 0 0, .int .i64 0, .bool false]) := Lib.hid (hI2.own 2 _ rfl)
  have hJ : Inv w [(w.heap.size, 53, [.bool a, .slice (some ⟨b1, o1, none⟩) l1 c1, .int .i64 e, .bool false]), (w.heap.size + 1, 53, [.bool b, .slice (some ⟨b2, o2, none⟩) l2 c2, .int .i64 f, .bool false])] w1 := hI2.init (bs := [_, _])
  have zc : ∀ i, w1.cell? ⟨w.heap.size + 1 + 1, i, none⟩ = [.bool false, .slice none 0 0, .int .i64 0, .bool false][i]? := fun i => (hI2.own 2 _ rfl).cell i
  have z0 := zc 0
  have z1 := zc 1
  have z2 := zc 2
  have z3 := zc 3
  have zf := fun i => (hI2.own 2 _ rfl).frozen i
  have zl := (hI2.own 2 _ rfl).lt
  simp at z0 z1 z2 z3
  clear zc hI2
  have HP0 : Hid (∀ w', Inv w [(w.heap.size, 53, [.bool a, .slice (some ⟨b1, o1, none⟩) l1 c1, .int .i64 e, .bool false]), (w.heap.size + 1, 53, [.bool b, .slice (some ⟨b2, o2, none⟩) l2 c2, .int .i64 f, .bool false])] w' → Inv w [(w.heap.size, 53, [.bool a, .slice (some ⟨b1, o1, none⟩) l1 c1, .int .i64 e, .bool false]), (w.heap.size + 1, 53, [.bool b, .slice (some ⟨b2, o2, none⟩) l2 c2, .int .i64 f, .bool false])] w' ∧ Tab w' ∧ w'.cell? ⟨w.heap.size, 0, none⟩ = some (.bool a) ∧ w'.cell? ⟨w.heap.size, 1, none⟩ = some (.slice (some ⟨b1, o1, none⟩) l1 c1) ∧ w'.cell? ⟨w.heap.size, 2, none⟩ = some (.int .i64 e) ∧ w'.cell? ⟨w.heap.size + 1, 0, none⟩ = some (.bool b)) := Lib.hid (fun w' h => ⟨h, h.kept.1, (h.own 0 _ rfl).cell 0, (h.own 0 _ rfl).cell 1, (h.own 0 _ rfl).cell 2, (h.own 1 _ rfl).cell 0⟩)
  go_region_held3 (fun w' => Inv w [(w.heap.size, 53, [.bool a, .slice (some ⟨b1, o1, none⟩) l1 c1, .int .i64 e, .bool false]), (w.heap.size + 1, 53, [.bool b, .slice (some ⟨b2, o2, none⟩) l2 c2, .int .i64 f, .bool false])] w' ∧ Tab w' ∧ w'.cell? ⟨w.heap.size, 0, none⟩ = some (.bool a) ∧ w'.cell? ⟨w.heap.size, 1, none⟩ = some (.slice (some ⟨b1, o1, none⟩) l1 c1) ∧ w'.cell? ⟨w.heap.size, 2, none⟩ = some (.int .i64 e) ∧ w'.cell? ⟨w.heap.size + 1, 0, none⟩ = some (.bool b))
    ((refine HP0.out _ ?_; repeat' (first | (with_reducible assumption) | (with_reducible refine Inv.drew ?_) | (with_reducible refine Inv.alloc ?_ _) | (with_reducible refine Inv.call ?_ (by assumption)) | (with_reducible refine Inv.far ?_ ?_ ?_ ?_ ?_ _) | omega | (simp; done) | (simp; omega))))
    (first | (go_at_call 77; (with_reducible refine Calls.mono (HP.out _ (by repeat' (first | (with_reducible assumption) | (with_reducible refine Tab.alloc ?_ _) | (with_reducible refine Tab.drew ?_) | (with_reducible refine Tab.drewN ?_ _) | (with_reducible refine Tab.setCell ?_ ?_ ?_ _) | omega | (simp; done) | (simp; omega))) _ ?_ ?_) ?_); (focus (have HV1 := HV.out; have HV2 := HS1.out; (repeat' (first | (with_reducible assumption) | (with_reducible refine Sl.alloc ?_ _) | (with_reducible refine Sl.drew ?_) | (with_reducible refine Sl.drewN ?_ _) | (with_reducible refine Sl.call ?_ (by assumption)))))); (focus (have HV1 := HV.out; have HV2 := HS1.out; (repeat' (first | (with_reducible assumption) | (with_reducible refine Sl.alloc ?_ _) | (with_reducible refine Sl.drew ?_) | (with_reducible refine Sl.drewN ?_ _) | (with_reducible refine Sl.call ?_ (by assumption)))))); rintro e' w3 ⟨v3, rfl, hs3, hk3⟩; obtain ⟨p3, q3, r3, rfl, -⟩ := hs3.form; have HS3 := Lib.hid hs3; clear hs3; obtain ⟨hc3, hf3⟩ := bcell hk3.2; have ht3 := hk3.1; have hz3 := hk3.2.size; (try simp only [World.size_alloc] at hz3); (try simp only [sz_drew] at hz3); (try simp only [sz_drewN] at hz3); (try simp only [World.size_alloc] at hz3); (try simp only [sz_drew] at hc3 hf3); (try simp only [sz_drewN] at hc3 hf3); (try have hw3 : w.heap.size < w3.heap.size := by omega); (try have hv3 : w.heap.size + 1 < w3.heap.size := by omega); (try have hu3 : w.heap.size + 2 < w3.heap.size := by omega)))
  go_wp2_with fail
  have hO := (HZ.out.drew).call hk3
  have hF := ((((hO.put 0 (.bool a)).put 1 (.slice (some ⟨p3, q3, none⟩) (ds (n + k * 10 ^ j)).length r3)).put 2 (.int .i64 e)).put 3 (.bool false))
  refine bodyPost_ret (ret_own rfl hF rfl Tryd.underlying53 rfl (by kernel_rfl)) rfl ?_
  exact ⟨_, rfl, HS3.out.four hO _ _ _ _, (by repeat' (first | (with_reducible assumption) | (with_reducible exact Kept.refl ht) | (with_reducible refine Kept.alloc ?_ _) | (with_reducible refine Kept.drew ?_) | (with_reducible refine Kept.drewN ?_ _) | (with_reducible refine Kept.setCell ?_ ?_ _ ?_ ?_) | (with_reducible refine Kept.trans ?_ (by assumption)) | omega | (simp; done) | (simp; omega)))⟩
set_option maxRecDepth 100000 in
set_option maxHeartbeats 8000000 in
theorem rsum_0ge (a b : Bool) (n k j : Nat) (e f : Int) (v u : Value) (w : World) (ht : Tab w) (hv : Sl w v (ds n)) (hu : Sl w u (ds k)) (hj : f - e = (j : Int)) (hab : (a == b) = false) (hc : k * 10 ^ j ≤ n) (_hsw : e ≤ f) (hn : dg n ≤ 100) (hk : dg k ≤ 100) (hj2 : j ≤ 2000) (he : -2000 ≤ e) (he2 : e ≤ 2000) :
    Calls Tryd.prog 39 #[.agg #[.bool a, v, .int .i64 e, .bool false], .agg #[.bool b, u, .int .i64 f, .bool false]] w fun x w' => ∃ v', x = .returned (.agg #[.bool a, v', .int .i64 e, .bool false]) ∧ Sl w' v' (ds (n - k * 10 ^ j)) ∧ Kept w w' := by
  have hlt := ht.lt
  have hlt0 := ht.lt0
  have HV := Lib.hid hv
  have HU := Lib.hid hu
  obtain ⟨b1, o1, c1, rfl, _⟩ := hv.form
  obtain ⟨b2, o2, c2, rfl, _⟩ := hu.form
  clear hv hu
  generalize (ds n).length = l1 at *
  generalize (ds k).length = l2 at *
  have hd := dg_mulle k (10 ^ j)
  have hd2 : dg (10 ^ j) ≤ j + 1 := (dg_iff _ _).2 (Nat.pow_lt_pow_right (by omega) (by omega))
  have hf2 : f ≤ 4000 := by omega
  have hf1 : -2000 ≤ f := by omega
  have HS : Hid (∀ W, Tab W → Sl W (.slice (some ⟨b2, o2, none⟩) l2 c2) (ds k) → Calls Tryd.prog 47 #[.slice (some ⟨b2, o2, none⟩) l2 c2, .int .i64 (j : Int)] W fun e w' => ∃ v', e = .returned v' ∧ Sl w' v' (ds (k * 10 ^ j)) ∧ Kept W w') := Lib.hid (fun W h h2 => refshift _ k j W h h2 (by omega) (by omega))
  have HM : Hid (∀ W, Tab W → ∀ x, Sl W (.slice (some ⟨b1, o1, none⟩) l1 c1) (ds n) → Sl W x (ds (k * 10 ^ j)) → Calls Tryd.prog 80 #[.slice (some ⟨b1, o1, none⟩) l1 c1, x] W fun e w' => ∃ v', e = .returned v' ∧ Sl w' v' (ds (n - k * 10 ^ j)) ∧ Kept W w') := Lib.hid (fun W h x h1 h2 => refminus _ x n (k * 10 ^ j) W h h1 h2 (by omega) hc)
  obtain ⟨cc, hcc⟩ : ∃ c, cmpN n (k * 10 ^ j) = c := ⟨_, rfl⟩
  have cc0 : 0 ≤ cc := by rw [← hcc]; exact cmpN_ge hc
  have HC : Hid (∀ W, Tab W → ∀ x, Sl W (.slice (some ⟨b1, o1, none⟩) l1 c1) (ds n) → Sl W x (ds (k * 10 ^ j)) → Calls Tryd.prog 79 #[.slice (some ⟨b1, o1, none⟩) l1 c1, x] W fun e w' => e = .returned (.int .i64 cc) ∧ Kept W w') := Lib.hid (fun W h x h1 h2 => by
    have := refcmp _ x n (k * 10 ^ j) W h h1 h2 (by omega)
    rwa [hcc] at this)
  clear hd hd2 hn hk hcc hc
  go_enter Tryd.func39, Tryd.ntmps39
  go_upto_region 3 with fail
  have hI := Inv.three ht 53 [.bool a, .slice (some ⟨b1, o1, none⟩) l1 c1, .int .i64 e, .bool false] 53 [.bool b, .slice (some ⟨b2, o2, none⟩) l2 c2, .int .i64 f, .bool false] 53 [.bool false, .slice none 0 0, .int .i64 0, .bool false]
  go_upto_region 7 with (first | (go_at_call 47; (with_reducible refine Calls.mono (HS.out _ (by repeat' (first | (with_reducible assumption) | (with_reducible refine Tab.alloc ?_ _) | (with_reducible refine Tab.drew ?_) | (with_reducible refine Tab.drewN ?_ _) | (with_reducible refine Tab.setCell ?_ ?_ ?_ _) | omega | (simp; done) | (simp; omega))) ?_) ?_); (focus (have HU1 := HU.out; (repeat' (first | (with_reducible assumption) | (with_reducible refine Sl.alloc ?_ _) | (with_reducible refine Sl.drew ?_) | (with_reducible refine Sl.drewN ?_ _) | (with_reducible refine Sl.call ?_ (by assumption)))))); rintro e' w1 ⟨v1, rfl, hs1, hk1⟩; obtain ⟨p1, q1, r1, rfl, -⟩ := hs1.form; (obtain ⟨m1, hm1⟩ : ∃ m, (ds (k * 10 ^ j)).length = m := ⟨_, rfl⟩); have HS1 := Lib.hid hs1; rw [hm1] at HS1 ⊢; clear hs1 hm1; obtain ⟨hc1, hf1⟩ := bcell hk1.2; have ht1 := hk1.1; have hz1 := hk1.2.size; (try simp only [World.size_alloc] at hz1); (try simp only [sz_drew] at hz1); (try simp only [sz_drewN] at hz1); (try simp only [World.size_alloc] at hz1); (try simp only [sz_drew] at hc1 hf1); (try simp only [sz_drewN] at hc1 hf1); (try have hw1 : w.heap.size < w1.heap.size := by omega); (try have hv1 : w.heap.size + 1 < w1.heap.size := by omega); (try have hu1 : w.heap.size + 2 < w1.heap.size := by omega)) | (go_at_call 79; (with_reducible refine Calls.mono (HC.out _ (by repeat' (first | (with_reducible assumption) | (with_reducible refine Tab.alloc ?_ _) | (with_reducible refine Tab.drew ?_) | (with_reducible refine Tab.drewN ?_ _) | (with_reducible refine Tab.setCell ?_ ?_ ?_ _) | omega | (simp; done) | (simp; omega))) _ ?_ ?_) ?_); (focus (have HV1 := HV.out; (repeat' (first | (with_reducible assumption) | (with_reducible refine Sl.alloc ?_ _) | (with_reducible refine Sl.drew ?_) | (with_reducible refine Sl.drewN ?_ _) | (with_reducible refine Sl.call ?_ (by assumption)))))); (focus (have HV1 := HS1.out; (repeat' (first | (with_reducible assumption) | (with_reducible refine Sl.alloc ?_ _) | (with_reducible refine Sl.drew ?_) | (with_reducible refine Sl.drewN ?_ _) | (with_reducible refine Sl.call ?_ (by assumption)))))); rintro e' w2 ⟨rfl, hk2⟩; obtain ⟨hc2, hf2⟩ := bcell hk2.2; have ht2 := hk2.1; have hz2 := hk2.2.size; (try simp only [World.size_alloc] at hz2); (try simp only [sz_drew] at hz2); (try simp only [sz_drewN] at hz2); (try simp only [World.size_alloc] at hz2); (try simp only [sz_drew] at hc2 hf2); (try simp only [sz_drewN] at hc2 hf2); (try have hw2 : w.heap.size < w2.heap.size := by omega); (try have hv2 : w.heap.size + 1 < w2.heap.size := by omega); (try have hu2 : w.heap.size + 2 < w2.heap.size := by omega)))
  have hI2 := (hI.call hk1).call hk2
  clear hI hc1 hf1 hc2 hf2
  have HZ : Hid (Own w2 (w.heap.size + 1 + 1) 53 [.bool false, .slice none 0 0, .int .i64 0, .bool false]) := Lib.hid (hI2.own 2 _ rfl)
  have hJ : Inv w [(w.heap.size, 53, [.bool a, .slice (some ⟨b1, o1, none⟩) l1 c1, .int .i64 e, .bool false]), (w.heap.size + 1, 53, [.bool b, .slice (some ⟨b2, o2, none⟩) l2 c2, .int .i64 f, .bool false])] w2 := hI2.init (bs := [_, _])
  have zc : ∀ i, w2.cell? ⟨w.heap.size + 1 + 1, i, none⟩ = [.bool false, .slice none 0 0, .int .i64 0, .bool false][i]? := fun i => (hI2.own 2 _ rfl).cell i
  have z0 := zc 0
  have z1 := zc 1
  have z2 := zc 2
  have z3 := zc 3
  have zf := fun i => (hI2.own 2 _ rfl).frozen i
  have zl := (hI2.own 2 _ rfl).lt
  simp at z0 z1 z2 z3
  clear zc hI2
  have HP0 : Hid (∀ w', Inv w [(w.heap.size, 53, [.bool a, .slice (some ⟨b1, o1, none⟩) l1 c1, .int .i64 e, .bool false]), (w.heap.size + 1, 53, [.bool b, .slice (some ⟨b2, o2, none⟩) l2 c2, .int .i64 f, .bool false])] w' → Inv w [(w.heap.size, 53, [.bool a, .slice (some ⟨b1, o1, none⟩) l1 c1, .int .i64 e, .bool false]), (w.heap.size + 1, 53, [.bool b, .slice (some ⟨b2, o2, none⟩) l2 c2, .int .i64 f, .bool false])] w' ∧ Tab w' ∧ w'.cell? ⟨w.heap.size, 0, none⟩ = some (.bool a) ∧ w'.cell? ⟨w.heap.size, 1, none⟩ = some (.slice (some ⟨b1, o1, none⟩) l1 c1) ∧ w'.cell? ⟨w.heap.size, 2, none⟩ = some (.int .i64 e) ∧ w'.cell? ⟨w.heap.size + 1, 0, none⟩ = some (.bool b)) := Lib.hid (fun w' h => ⟨h, h.kept.1, (h.own 0 _ rfl).cell 0, (h.own 0 _ rfl).cell 1, (h.own 0 _ rfl).cell 2, (h.own 1 _ rfl).cell 0⟩)
  go_region_held3 (fun w' => Inv w [(w.heap.size, 53, [.bool a, .slice (some ⟨b1, o1, none⟩) l1 c1, .int .i64 e, .bool false]), (w.heap.size + 1, 53, [.bool b, .slice (some ⟨b2, o2, none⟩) l2 c2, .int .i64 f, .bool false])] w' ∧ Tab w' ∧ w'.cell? ⟨w.heap.size, 0, none⟩ = some (.bool a) ∧ w'.cell? ⟨w.heap.size, 1, none⟩ = some (.slice (some ⟨b1, o1, none⟩) l1 c1) ∧ w'.cell? ⟨w.heap.size, 2, none⟩ = some (.int .i64 e) ∧ w'.cell? ⟨w.heap.size + 1, 0, none⟩ = some (.bool b))
    ((refine HP0.out _ ?_; repeat' (first | (with_reducible assumption) | (with_reducible refine Inv.drew ?_) | (with_reducible refine Inv.alloc ?_ _) | (with_reducible refine Inv.call ?_ (by assumption)) | (with_reducible refine Inv.far ?_ ?_ ?_ ?_ ?_ _) | omega | (simp; done) | (simp; omega))))
    (first | (go_at_call 80; (with_reducible refine Calls.mono (HM.out _ (by repeat' (first | (with_reducible assumption) | (with_reducible refine Tab.alloc ?_ _) | (with_reducible refine Tab.drew ?_) | (with_reducible refine Tab.drewN ?_ _) | (with_reducible refine Tab.setCell ?_ ?_ ?_ _) | omega | (simp; done) | (simp; omega))) _ ?_ ?_) ?_); (focus (have HV1 := HV.out; have HV2 := HS1.out; (repeat' (first | (with_reducible assumption) | (with_reducible refine Sl.alloc ?_ _) | (with_reducible refine Sl.drew ?_) | (with_reducible refine Sl.drewN ?_ _) | (with_reducible refine Sl.call ?_ (by assumption)))))); (focus (have HV1 := HV.out; have HV2 := HS1.out; (repeat' (first | (with_reducible assumption) | (with_reducible refine Sl.alloc ?_ _) | (with_reducible refine Sl.drew ?_) | (with_reducible refine Sl.drewN ?_ _) | (with_reducible refine Sl.call ?_ (by assumption)))))); rintro e' w3 ⟨v3, rfl, hs3, hk3⟩; obtain ⟨p3, q3, r3, rfl, -⟩ := hs3.form; have HS3 := Lib.hid hs3; clear hs3; obtain ⟨hc3, hf3⟩ := bcell hk3.2; have ht3 := hk3.1; have hz3 := hk3.2.size; (try simp only [World.size_alloc] at hz3); (try simp only [sz_drew] at hz3); (try simp only [sz_drewN] at hz3); (try simp only [World.size_alloc] at hz3); (try simp only [sz_drew] at hc3 hf3); (try simp only [sz_drewN] at hc3 hf3); (try have hw3 : w.heap.size < w3.heap.size := by omega); (try have hv3 : w.heap.size + 1 < w3.heap.size := by omega); (try have hu3 : w.heap.size + 2 < w3.heap.size := by omega)))
  go_wp2_with fail
  have hO := (HZ.out.drew).call hk3
  have hF := ((((hO.put 0 (.bool a)).put 1 (.slice (some ⟨p3, q3, none⟩) (ds (n - k * 10 ^ j)).length r3)).put 2 (.int .i64 e)).put 3 (.bool false))
  refine bodyPost_ret (ret_own rfl hF rfl Tryd.underlying53 rfl (by kernel_rfl)) rfl ?_
  exact ⟨_, rfl, HS3.out.four hO _ _ _ _, (by repeat' (first | (with_reducible assumption) | (with_reducible exact Kept.refl ht) | (with_reducible refine Kept.alloc ?_ _) | (with_reducible refine Kept.drew ?_) | (with_reducible refine Kept.drewN ?_ _) | (with_reducible refine Kept.setCell ?_ ?_ _ ?_ ?_) | (with_reducible refine Kept.trans ?_ (by assumption)) | omega | (simp; done) | (simp; omega)))⟩
set_option maxRecDepth 100000 in
set_option maxHeartbeats 8000000 in
theorem rsum_0lt (a b : Bool) (n k j : Nat) (e f : Int) (v u : Value) (w : World) (ht : Tab w) (hv : Sl w v (ds n)) (hu : Sl w u (ds k)) (hj : f - e = (j : Int)) (hab : (a == b) = false) (hc : n < k * 10 ^ j) (_hsw : e ≤ f) (hn : dg n ≤ 100) (hk : dg k ≤ 100) (hj2 : j ≤ 2000) (he : -2000 ≤ e) (he2 : e ≤ 2000) :
    Calls Tryd.prog 39 #[.agg #[.bool a, v, .int .i64 e, .bool false], .agg #[.bool b, u, .int .i64 f, .bool false]] w fun x w' => ∃ v', x = .returned (.agg #[.bool b, v', .int .i64 e, .bool false]) ∧ Sl w' v' (ds (k * 10 ^ j - n)) ∧ Kept w w' := by
  have hlt := ht.lt
  have hlt0 := ht.lt0
  have HV := Lib.hid hv
  have HU := Lib.hid hu
  obtain ⟨b1, o1, c1, rfl, _⟩ := hv.form
  obtain ⟨b2, o2, c2, rfl, _⟩ := hu.form
  clear hv hu
  generalize (ds n).length = l1 at *
  generalize (ds k).length = l2 at *
  have hd := dg_mulle k (10 ^ j)
  have hd2 : dg (10 ^ j) ≤ j + 1 := (dg_iff _ _).2 (Nat.pow_lt_pow_right (by omega) (by omega))
  have hf2 : f ≤ 4000 := by omega
  have hf1 : -2000 ≤ f := by omega
  have HS : Hid (∀ W, Tab W → Sl W (.slice (some ⟨b2, o2, none⟩) l2 c2) (ds k) → Calls Tryd.prog 47 #[.slice (some ⟨b2, o2, none⟩) l2 c2, .int .i64 (j : Int)] W fun e w' => ∃ v', e = .returned v' ∧ Sl w' v' (ds (k * 10 ^ j)) ∧ Kept W w') := Lib.hid (fun W h h2 => refshift _ k j W h h2 (by omega) (by omega))
  have HM : Hid (∀ W, Tab W → ∀ x, Sl W x (ds (k * 10 ^ j)) → Sl W (.slice (some ⟨b1, o1, none⟩) l1 c1) (ds n) → Calls Tryd.prog 80 #[x, .slice (some ⟨b1, o1, none⟩) l1 c1] W fun e w' => ∃ v', e = .returned v' ∧ Sl w' v' (ds (k * 10 ^ j - n)) ∧ Kept W w') := Lib.hid (fun W h x h1 h2 => refminus x _ (k * 10 ^ j) n W h h1 h2 (by omega) (Nat.le_of_lt hc))
  obtain ⟨cc, hcc⟩ : ∃ c, cmpN n (k * 10 ^ j) = c := ⟨_, rfl⟩
  have cc0 : cc < 0 := by rw [← hcc]; rw [cmpN_lt hc]; decide
  have HC : Hid (∀ W, Tab W → ∀ x, Sl W (.slice (some ⟨b1, o1, none⟩) l1 c1) (ds n) → Sl W x (ds (k * 10 ^ j)) → Calls Tryd.prog 79 #[.slice (some ⟨b1, o1, none⟩) l1 c1, x] W fun e w' => e = .returned (.int .i64 cc) ∧ Kept W w') := Lib.hid (fun W h x h1 h2 => by
    have := refcmp _ x n (k * 10 ^ j) W h h1 h2 (by omega)
    rwa [hcc] at this)
  clear hd hd2 hn hk hcc hc
  go_enter Tryd.func39, Tryd.ntmps39
  go_upto_region 3 with fail
  have hI := Inv.three ht 53 [.bool a, .slice (some ⟨b1, o1, none⟩) l1 c1, .int .i64 e, .bool false] 53 [.bool b, .slice (some ⟨b2, o2, none⟩) l2 c2, .int .i64 f, .bool false] 53 [.bool false, .slice none 0 0, .int .i64 0, .bool false]
  go_upto_region 8 with (first | (go_at_call 47; (with_reducible refine Calls.mono (HS.out _ (by repeat' (first | (with_reducible assumption) | (with_reducible refine Tab.alloc ?_ _) | (with_reducible refine Tab.drew ?_) | (with_reducible refine Tab.drewN ?_ _) | (with_reducible refine Tab.setCell ?_ ?_ ?_ _) | omega | (simp; done) | (simp; omega))) ?_) ?_); (focus (have HU1 := HU.out; (repeat' (first | (with_reducible assumption) | (with_reducible refine Sl.alloc ?_ _) | (with_reducible refine Sl.drew ?_) | (with_reducible refine Sl.drewN ?_ _) | (with_reducible refine Sl.call ?_ (by assumption)))))); rintro e' w1 ⟨v1, rfl, hs1, hk1⟩; obtain ⟨p1, q1, r1, rfl, -⟩ := hs1.form; (obtain ⟨m1, hm1⟩ : ∃ m, (ds (k * 10 ^ j)).length = m := ⟨_, rfl⟩); have HS1 := Lib.hid hs1; rw [hm1] at HS1 ⊢; clear hs1 hm1; obtain ⟨hc1, hf1⟩ := bcell hk1.2; have ht1 := hk1.1; have hz1 := hk1.2.size; (try simp only [World.size_alloc] at hz1); (try simp only [sz_drew] at hz1); (try simp only [sz_drewN] at hz1); (try simp only [World.size_alloc] at hz1); (try simp only [sz_drew] at hc1 hf1); (try simp only [sz_drewN] at hc1 hf1); (try have hw1 : w.heap.size < w1.heap.size := by omega); (try have hv1 : w.heap.size + 1 < w1.heap.size := by omega); (try have hu1 : w.heap.size + 2 < w1.heap.size := by omega)) | (go_at_call 79; (with_reducible refine Calls.mono (HC.out _ (by repeat' (first | (with_reducible assumption) | (with_reducible refine Tab.alloc ?_ _) | (with_reducible refine Tab.drew ?_) | (with_reducible refine Tab.drewN ?_ _) | (with_reducible refine Tab.setCell ?_ ?_ ?_ _) | omega | (simp; done) | (simp; omega))) _ ?_ ?_) ?_); (focus (have HV1 := HV.out; (repeat' (first | (with_reducible assumption) | (with_reducible refine Sl.alloc ?_ _) | (with_reducible refine Sl.drew ?_) | (with_reducible refine Sl.drewN ?_ _) | (with_reducible refine Sl.call ?_ (by assumption)))))); (focus (have HV1 := HS1.out; (repeat' (first | (with_reducible assumption) | (with_reducible refine Sl.alloc ?_ _) | (with_reducible refine Sl.drew ?_) | (with_reducible refine Sl.drewN ?_ _) | (with_reducible refine Sl.call ?_ (by assumption)))))); rintro e' w2 ⟨rfl, hk2⟩; obtain ⟨hc2, hf2⟩ := bcell hk2.2; have ht2 := hk2.1; have hz2 := hk2.2.size; (try simp only [World.size_alloc] at hz2); (try simp only [sz_drew] at hz2); (try simp only [sz_drewN] at hz2); (try simp only [World.size_alloc] at hz2); (try simp only [sz_drew] at hc2 hf2); (try simp only [sz_drewN] at hc2 hf2); (try have hw2 : w.heap.size < w2.heap.size := by omega); (try have hv2 : w.heap.size + 1 < w2.heap.size := by omega); (try have hu2 : w.heap.size + 2 < w2.heap.size := by omega)))
  have hI2 := (hI.call hk1).call hk2
  clear hI hc1 hf1 hc2 hf2
  have HZ : Hid (Own w2 (w.heap.size + 1 + 1) 53 [.bool false, .slice none 0 0, .int .i64 0, .bool false]) := Lib.hid (hI2.own 2 _ rfl)
  have hJ : Inv w [(w.heap.size, 53, [.bool a, .slice (some ⟨b1, o1, none⟩) l1 c1, .int .i64 e, .bool false]), (w.heap.size + 1, 53, [.bool b, .slice (some ⟨b2, o2, none⟩) l2 c2, .int .i64 f, .bool false])] w2 := hI2.init (bs := [_, _])
  have zc : ∀ i, w2.cell? ⟨w.heap.size + 1 + 1, i, none⟩ = [.bool false, .slice none 0 0, .int .i64 0, .bool false][i]? := fun i => (hI2.own 2 _ rfl).cell i
  have z0 := zc 0
  have z1 := zc 1
  have z2 := zc 2
  have z3 := zc 3
  have zf := fun i => (hI2.own 2 _ rfl).frozen i
  have zl := (hI2.own 2 _ rfl).lt
  simp at z0 z1 z2 z3
  clear zc hI2
  have HP0 : Hid (∀ w', Inv w [(w.heap.size, 53, [.bool a, .slice (some ⟨b1, o1, none⟩) l1 c1, .int .i64 e, .bool false]), (w.heap.size + 1, 53, [.bool b, .slice (some ⟨b2, o2, none⟩) l2 c2, .int .i64 f, .bool false])] w' → Inv w [(w.heap.size, 53, [.bool a, .slice (some ⟨b1, o1, none⟩) l1 c1, .int .i64 e, .bool false]), (w.heap.size + 1, 53, [.bool b, .slice (some ⟨b2, o2, none⟩) l2 c2, .int .i64 f, .bool false])] w' ∧ Tab w' ∧ w'.cell? ⟨w.heap.size, 0, none⟩ = some (.bool a) ∧ w'.cell? ⟨w.heap.size, 1, none⟩ = some (.slice (some ⟨b1, o1, none⟩) l1 c1) ∧ w'.cell? ⟨w.heap.size, 2, none⟩ = some (.int .i64 e) ∧ w'.cell? ⟨w.heap.size + 1, 0, none⟩ = some (.bool b)) := Lib.hid (fun w' h => ⟨h, h.kept.1, (h.own 0 _ rfl).cell 0, (h.own 0 _ rfl).cell 1, (h.own 0 _ rfl).cell 2, (h.own 1 _ rfl).cell 0⟩)
  go_region_held3 (fun w' => Inv w [(w.heap.size, 53, [.bool a, .slice (some ⟨b1, o1, none⟩) l1 c1, .int .i64 e, .bool false]), (w.heap.size + 1, 53, [.bool b, .slice (some ⟨b2, o2, none⟩) l2 c2, .int .i64 f, .bool false])] w' ∧ Tab w' ∧ w'.cell? ⟨w.heap.size, 0, none⟩ = some (.bool a) ∧ w'.cell? ⟨w.heap.size, 1, none⟩ = some (.slice (some ⟨b1, o1, none⟩) l1 c1) ∧ w'.cell? ⟨w.heap.size, 2, none⟩ = some (.int .i64 e) ∧ w'.cell? ⟨w.heap.size + 1, 0, none⟩ = some (.bool b))
    ((refine HP0.out _ ?_; repeat' (first | (with_reducible assumption) | (with_reducible refine Inv.drew ?_) | (with_reducible refine Inv.alloc ?_ _) | (with_reducible refine Inv.call ?_ (by assumption)) | (with_reducible refine Inv.far ?_ ?_ ?_ ?_ ?_ _) | omega | (simp; done) | (simp; omega))))
    (first | (go_at_call 80; (with_reducible refine Calls.mono (HM.out _ (by repeat' (first | (with_reducible assumption) | (with_reducible refine Tab.alloc ?_ _) | (with_reducible refine Tab.drew ?_) | (with_reducible refine Tab.drewN ?_ _) | (with_reducible refine Tab.setCell ?_ ?_ ?_ _) | omega | (simp; done) | (simp; omega))) _ ?_ ?_) ?_); (focus (have HV1 := HV.out; have HV2 := HS1.out; (repeat' (first | (with_reducible assumption) | (with_reducible refine Sl.alloc ?_ _) | (with_reducible refine Sl.drew ?_) | (with_reducible refine Sl.drewN ?_ _) | (with_reducible refine Sl.call ?_ (by assumption)))))); (focus (have HV1 := HV.out; have HV2 := HS1.out; (repeat' (first | (with_reducible assumption) | (with_reducible refine Sl.alloc ?_ _) | (with_reducible refine Sl.drew ?_) | (with_reducible refine Sl.drewN ?_ _) | (with_reducible refine Sl.call ?_ (by assumption)))))); rintro e' w3 ⟨v3, rfl, hs3, hk3⟩; obtain ⟨p3, q3, r3, rfl, -⟩ := hs3.form; have HS3 := Lib.hid hs3; clear hs3; obtain ⟨hc3, hf3⟩ := bcell hk3.2; have ht3 := hk3.1; have hz3 := hk3.2.size; (try simp only [World.size_alloc] at hz3); (try simp only [sz_drew] at hz3); (try simp only [sz_drewN] at hz3); (try simp only [World.size_alloc] at hz3); (try simp only [sz_drew] at hc3 hf3); (try simp only [sz_drewN] at hc3 hf3); (try have hw3 : w.heap.size < w3.heap.size := by omega); (try have hv3 : w.heap.size + 1 < w3.heap.size := by omega); (try have hu3 : w.heap.size + 2 < w3.heap.size := by omega)))
  go_wp2_with fail
  have hO := (HZ.out.drew).call hk3
  have hF := ((((hO.put 0 (.bool b)).put 1 (.slice (some ⟨p3, q3, none⟩) (ds (k * 10 ^ j - n)).length r3)).put 2 (.int .i64 e)).put 3 (.bool false))
  refine bodyPost_ret (ret_own rfl hF rfl Tryd.underlying53 rfl (by kernel_rfl)) rfl ?_
  exact ⟨_, rfl, HS3.out.four hO _ _ _ _, (by repeat' (first | (with_reducible assumption) | (with_reducible exact Kept.refl ht) | (with_reducible refine Kept.alloc ?_ _) | (with_reducible refine Kept.drew ?_) | (with_reducible refine Kept.drewN ?_ _) | (with_reducible refine Kept.setCell ?_ ?_ _ ?_ ?_) | (with_reducible refine Kept.trans ?_ (by assumption)) | omega | (simp; done) | (simp; omega)))⟩
set_option maxRecDepth 100000 in
set_option maxHeartbeats 8000000 in
theorem rsum_1eq (a b : Bool) (n k j : Nat) (e f : Int) (v u : Value) (w : World) (ht : Tab w) (hv : Sl w v (ds n)) (hu : Sl w u (ds k)) (hj : f - e = (j : Int)) (hab : (a == b) = true) (hsw : e < f) (hn : dg n ≤ 100) (hk : dg k ≤ 100) (hj2 : j ≤ 2000) (he : -2000 ≤ e) (he2 : e ≤ 2000) :
    Calls Tryd.prog 39 #[.agg #[.bool b, u, .int .i64 f, .bool false], .agg #[.bool a, v, .int .i64 e, .bool false]] w fun x w' => ∃ v', x = .returned (.agg #[.bool a, v', .int .i64 e, .bool false]) ∧ Sl w' v' (ds (n + k * 10 ^ j)) ∧ Kept w w' := by
  have hlt := ht.lt
  have hlt0 := ht.lt0
  have HV := Lib.hid hv
  have HU := Lib.hid hu
  obtain ⟨b1, o1, c1, rfl, _⟩ := hv.form
  obtain ⟨b2, o2, c2, rfl, _⟩ := hu.form
  clear hv hu
  generalize (ds n).length = l1 at *
  generalize (ds k).length = l2 at *
  have hd := dg_mulle k (10 ^ j)
  have hd2 : dg (10 ^ j) ≤ j + 1 := (dg_iff _ _).2 (Nat.pow_lt_pow_right (by omega) (by omega))
  have hf2 : f ≤ 4000 := by omega
  have hf1 : -2000 ≤ f := by omega
  have HS : Hid (∀ W, Tab W → Sl W (.slice (some ⟨b2, o2, none⟩) l2 c2) (ds k) → Calls Tryd.prog 47 #[.slice (some ⟨b2, o2, none⟩) l2 c2, .int .i64 (j : Int)] W fun e w' => ∃ v', e = .returned v' ∧ Sl w' v' (ds (k * 10 ^ j)) ∧ Kept W w') := Lib.hid (fun W h h2 => refshift _ k j W h h2 (by omega) (by omega))
  have HP : Hid (∀ W, Tab W → ∀ x, Sl W (.slice (some ⟨b1, o1, none⟩) l1 c1) (ds n) → Sl W x (ds (k * 10 ^ j)) → Calls Tryd.prog 77 #[.slice (some ⟨b1, o1, none⟩) l1 c1, x] W fun e w' => ∃ v', e = .returned v' ∧ Sl w' v' (ds (n + k * 10 ^ j)) ∧ Kept W w') := Lib.hid (fun W h x h1 h2 => refplus _ x n (k * 10 ^ j) W h h1 h2 (by omega) (by omega))
  clear hd hd2 hn hk
  go_enter Tryd.func39, Tryd.ntmps39
  go_upto_region 3 with fail
  have hI := Inv.three ht 53 [.bool a, .slice (some ⟨b1, o1, none⟩) l1 c1, .int .i64 e, .bool false] 53 [.bool b, .slice (some ⟨b2, o2, none⟩) l2 c2, .int .i64 f, .bool false] 53 [.bool false, .slice none 0 0, .int .i64 0, .bool false]
  go_upto_region 5 with (first | (go_at_call 47; (with_reducible refine Calls.mono (HS.out _ (by repeat' (first | (with_reducible assumption) | (with_reducible refine Tab.alloc ?_ _) | (with_reducible refine Tab.drew ?_) | (with_reducible refine Tab.drewN ?_ _) | (with_reducible refine Tab.setCell ?_ ?_ ?_ _) | omega | (simp; done) | (simp; omega))) ?_) ?_); (focus (have HU1 := HU.out; (repeat' (first | (with_reducible assumption) | (with_reducible refine Sl.alloc ?_ _) | (with_reducible refine Sl.drew ?_) | (with_reducible refine Sl.drewN ?_ _) | (with_reducible refine Sl.call ?_ (by assumption)))))); rintro e' w1 ⟨v1, rfl, hs1, hk1⟩; obtain ⟨p1, q1, r1, rfl, -⟩ := hs1.form; (obtain ⟨m1, hm1⟩ : ∃ m, (ds (k * 10 ^ j)).length = m := ⟨_, rfl⟩); have HS1 := Lib.hid hs1; rw [hm1] at HS1 ⊢; clear hs1 hm1; obtain ⟨hc1, hf1⟩ := bcell hk1.2; have ht1 := hk1.1; have hz1 := hk1.2.size; (try simp only [World.size_alloc] at hz1); (try simp only [sz_drew] at hz1); (try simp only [sz_drewN] at hz1); (try simp only [World.size_alloc] at hz1); (try simp only [sz_drew] at hc1 hf1); (try simp only [sz_drewN] at hc1 hf1); (try have hw1 : w.heap.size < w1.heap.size := by omega); (try have hv1 : w.heap.size + 1 < w1.heap.size := by omega); (try have hu1 : w.heap.size + 2 < w1.heap.size := by omega)))
  have hI2 := hI.call hk1
  clear hI hc1 hf1
  have HZ : Hid (Own w1 (w.heap.size + 1 + 1) 53 [.bool false, .slice none 0 0, .int .i64 0, .bool false]) := Lib.hid (hI2.own 2 _ rfl)
  have hJ : Inv w [(w.heap.size, 53, [.bool a, .slice (some ⟨b1, o1, none⟩) l1 c1, .int .i64 e, .bool false]), (w.heap.size + 1, 53, [.bool b, .slice (some ⟨b2, o2, none⟩) l2 c2, .int .i64 f, .bool false])] w1 := hI2.init (bs := [_, _])
  have zc : ∀ i, w1.cell? ⟨w.heap.size + 1 + 1, i, none⟩ = [.bool false, .slice none 0 0, .int .i64 0, .bool false][i]? := fun i => (hI2.own 2 _ rfl).cell i
  have z0 := zc 0
  have z1 := zc 1
  have z2 := zc 2
  have z3 := zc 3
  have zf := fun i => (hI2.own 2 _ rfl).frozen i
  have zl := (hI2.own 2 _ rfl).lt
  simp at z0 z1 z2 z3
  clear zc hI2
  have HP0 : Hid (∀ w', Inv w [(w.heap.size, 53, [.bool a, .slice (some ⟨b1, o1, none⟩) l1 c1, .int .i64 e, .bool false]), (w.heap.size + 1, 53, [.bool b, .slice (some ⟨b2, o2, none⟩) l2 c2, .int .i64 f, .bool false])] w' → Inv w [(w.heap.size, 53, [.bool a, .slice (some ⟨b1, o1, none⟩) l1 c1, .int .i64 e, .bool false]), (w.heap.size + 1, 53, [.bool b, .slice (some ⟨b2, o2, none⟩) l2 c2, .int .i64 f, .bool false])] w' ∧ Tab w' ∧ w'.cell? ⟨w.heap.size, 0, none⟩ = some (.bool a) ∧ w'.cell? ⟨w.heap.size, 1, none⟩ = some (.slice (some ⟨b1, o1, none⟩) l1 c1) ∧ w'.cell? ⟨w.heap.size, 2, none⟩ = some (.int .i64 e) ∧ w'.cell? ⟨w.heap.size + 1, 0, none⟩ = some (.bool b)) := Lib.hid (fun w' h => ⟨h, h.kept.1, (h.own 0 _ rfl).cell 0, (h.own 0 _ rfl).cell 1, (h.own 0 _ rfl).cell 2, (h.own 1 _ rfl).cell 0⟩)
  go_region_held3 (fun w' => Inv w [(w.heap.size, 53, [.bool a, .slice (some ⟨b1, o1, none⟩) l1 c1, .int .i64 e, .bool false]), (w.heap.size + 1, 53, [.bool b, .slice (some ⟨b2, o2, none⟩) l2 c2, .int .i64 f, .bool false])] w' ∧ Tab w' ∧ w'.cell? ⟨w.heap.size, 0, none⟩ = some (.bool a) ∧ w'.cell? ⟨w.heap.size, 1, none⟩ = some (.slice (some ⟨b1, o1, none⟩) l1 c1) ∧ w'.cell? ⟨w.heap.size, 2, none⟩ = some (.int .i64 e) ∧ w'.cell? ⟨w.heap.size + 1, 0, none⟩ = some (.bool b))
    ((refine HP0.out _ ?_; repeat' (first | (with_reducible assumption) | (with_reducible refine Inv.drew ?_) | (with_reducible refine Inv.alloc ?_ _) | (with_reducible refine Inv.call ?_ (by assumption)) | (with_reducible refine Inv.far ?_ ?_ ?_ ?_ ?_ _) | omega | (simp; done) | (simp; omega))))
    (first | (go_at_call 77; (with_reducible refine Calls.mono (HP.out _ (by repeat' (first | (with_reducible assumption) | (with_reducible refine Tab.alloc ?_ _) | (with_reducible refine Tab.drew ?_) | (with_reducible refine Tab.drewN ?_ _) | (with_reducible refine Tab.setCell ?_ ?_ ?_ _) | omega | (simp; done) | (simp; omega))) _ ?_ ?_) ?_); (focus (have HV1 := HV.out; have HV2 := HS1.out; (repeat' (first | (with_reducible assumption) | (with_reducible refine Sl.alloc ?_ _) | (with_reducible refine Sl.drew ?_) | (with_reducible refine Sl.drewN ?_ _) | (with_reducible refine Sl.call ?_ (by assumption)))))); (focus (have HV1 := HV.out; have HV2 := HS1.out; (repeat' (first | (with_reducible assumption) | (with_reducible refine Sl.alloc ?_ _) | (with_reducible refine Sl.drew ?_) | (with_reducible refine Sl.drewN ?_ _) | (with_reducible refine Sl.call ?_ (by assumption)))))); rintro e' w3 ⟨v3, rfl, hs3, hk3⟩; obtain ⟨p3, q3, r3, rfl, -⟩ := hs3.form; have HS3 := Lib.hid hs3; clear hs3; obtain ⟨hc3, hf3⟩ := bcell hk3.2; have ht3 := hk3.1; have hz3 := hk3.2.size; (try simp only [World.size_alloc] at hz3); (try simp only [sz_drew] at hz3); (try simp only [sz_drewN] at hz3); (try simp only [World.size_alloc] at hz3); (try simp only [sz_drew] at hc3 hf3); (try simp only [sz_drewN] at hc3 hf3); (try have hw3 : w.heap.size < w3.heap.size := by omega); (try have hv3 : w.heap.size + 1 < w3.heap.size := by omega); (try have hu3 : w.heap.size + 2 < w3.heap.size := by omega)))
  go_wp2_with fail
  have hO := (HZ.out.drew).call hk3
  have hF := ((((hO.put 0 (.bool a)).put 1 (.slice (some ⟨p3, q3, none⟩) (ds (n + k * 10 ^ j)).length r3)).put 2 (.int .i64 e)).put 3 (.bool false))
  refine bodyPost_ret (ret_own rfl hF rfl Tryd.underlying53 rfl (by kernel_rfl)) rfl ?_
  exact ⟨_, rfl, HS3.out.four hO _ _ _ _, (by repeat' (first | (with_reducible assumption) | (with_reducible exact Kept.refl ht) | (with_reducible refine Kept.alloc ?_ _) | (with_reducible refine Kept.drew ?_) | (with_reducible refine Kept.drewN ?_ _) | (with_reducible refine Kept.setCell ?_ ?_ _ ?_ ?_) | (with_reducible refine Kept.trans ?_ (by assumption)) | omega | (simp; done) | (simp; omega)))⟩
set_option maxRecDepth 100000 in
set_option maxHeartbeats 8000000 in
theorem rsum_1ge (a b : Bool) (n k j : Nat) (e f : Int) (v u : Value) (w : World) (ht : Tab w) (hv : Sl w v (ds n)) (hu : Sl w u (ds k)) (hj : f - e = (j : Int)) (hab : (a == b) = false) (hc : k * 10 ^ j ≤ n) (hsw : e < f) (hn : dg n ≤ 100) (hk : dg k ≤ 100) (hj2 : j ≤ 2000) (he : -2000 ≤ e) (he2 : e ≤ 2000) :
    Calls Tryd.prog 39 #[.agg #[.bool b, u, .int .i64 f, .bool false], .agg #[.bool a, v, .int .i64 e, .bool false]] w fun x w' => ∃ v', x = .returned (.agg #[.bool a, v', .int .i64 e, .bool false]) ∧ Sl w' v' (ds (n - k * 10 ^ j)) ∧ Kept w w' := by
  have hlt := ht.lt
  have hlt0 := ht.lt0
  have HV := Lib.hid hv
  have HU := Lib.hid hu
  obtain ⟨b1, o1, c1, rfl, _⟩ := hv.form
  obtain ⟨b2, o2, c2, rfl, _⟩ := hu.form
  clear hv hu
  generalize (ds n).length = l1 at *
  generalize (ds k).length = l2 at *
  have hd := dg_mulle k (10 ^ j)
  have hd2 : dg (10 ^ j) ≤ j + 1 := (dg_iff _ _).2 (Nat.pow_lt_pow_right (by omega) (by omega))
  have hf2 : f ≤ 4000 := by omega
  have hf1 : -2000 ≤ f := by omega
  have HS : Hid (∀ W, Tab W → Sl W (.slice (some ⟨b2, o2, none⟩) l2 c2) (ds k) → Calls Tryd.prog 47 #[.slice (some ⟨b2, o2, none⟩) l2 c2, .int .i64 (j : Int)] W fun e w' => ∃ v', e = .returned v' ∧ Sl w' v' (ds (k * 10 ^ j)) ∧ Kept W w') := Lib.hid (fun W h h2 => refshift _ k j W h h2 (by omega) (by omega))
  have HM : Hid (∀ W, Tab W → ∀ x, Sl W (.slice (some ⟨b1, o1, none⟩) l1 c1) (ds n) → Sl W x (ds (k * 10 ^ j)) → Calls Tryd.prog 80 #[.slice (some ⟨b1, o1, none⟩) l1 c1, x] W fun e w' => ∃ v', e = .returned v' ∧ Sl w' v' (ds (n - k * 10 ^ j)) ∧ Kept W w') := Lib.hid (fun W h x h1 h2 => refminus _ x n (k * 10 ^ j) W h h1 h2 (by omega) hc)
  obtain ⟨cc, hcc⟩ : ∃ c, cmpN n (k * 10 ^ j) = c := ⟨_, rfl⟩
  have cc0 : 0 ≤ cc := by rw [← hcc]; exact cmpN_ge hc
  have HC : Hid (∀ W, Tab W → ∀ x, Sl W (.slice (some ⟨b1, o1, none⟩) l1 c1) (ds n) → Sl W x (ds (k * 10 ^ j)) → Calls Tryd.prog 79 #[.slice (some ⟨b1, o1, none⟩) l1 c1, x] W fun e w' => e = .returned (.int .i64 cc) ∧ Kept W w') := Lib.hid (fun W h x h1 h2 => by
    have := refcmp _ x n (k * 10 ^ j) W h h1 h2 (by omega)
    rwa [hcc] at this)
  clear hd hd2 hn hk hcc hc
  go_enter Tryd.func39, Tryd.ntmps39
  go_upto_region 3 with fail
  have hI := Inv.three ht 53 [.bool a, .slice (some ⟨b1, o1, none⟩) l1 c1, .int .i64 e, .bool false] 53 [.bool b, .slice (some ⟨b2, o2, none⟩) l2 c2, .int .i64 f, .bool false] 53 [.bool false, .slice none 0 0, .int .i64 0, .bool false]
  go_upto_region 7 with (first | (go_at_call 47; (with_reducible refine Calls.mono (HS.out _ (by repeat' (first | (with_reducible assumption) | (with_reducible refine Tab.alloc ?_ _) | (with_reducible refine Tab.drew ?_) | (with_reducible refine Tab.drewN ?_ _) | (with_reducible refine Tab.setCell ?_ ?_ ?_ _) | omega | (simp; done) | (simp; omega))) ?_) ?_); (focus (have HU1 := HU.out; (repeat' (first | (with_reducible assumption) | (with_reducible refine Sl.alloc ?_ _) | (with_reducible refine Sl.drew ?_) | (with_reducible refine Sl.drewN ?_ _) | (with_reducible refine Sl.call ?_ (by assumption)))))); rintro e' w1 ⟨v1, rfl, hs1, hk1⟩; obtain ⟨p1, q1, r1, rfl, -⟩ := hs1.form; (obtain ⟨m1, hm1⟩ : ∃ m, (ds (k * 10 ^ j)).length = m := ⟨_, rfl⟩); have HS1 := Lib.hid hs1; rw [hm1] at HS1 ⊢; clear hs1 hm1; obtain ⟨hc1, hf1⟩ := bcell hk1.2; have ht1 := hk1.1; have hz1 := hk1.2.size; (try simp only [World.size_alloc] at hz1); (try simp only [sz_drew] at hz1); (try simp only [sz_drewN] at hz1); (try simp only [World.size_alloc] at hz1); (try simp only [sz_drew] at hc1 hf1); (try simp only [sz_drewN] at hc1 hf1); (try have hw1 : w.heap.size < w1.heap.size := by omega); (try have hv1 : w.heap.size + 1 < w1.heap.size := by omega); (try have hu1 : w.heap.size + 2 < w1.heap.size := by omega)) | (go_at_call 79; (with_reducible refine Calls.mono (HC.out _ (by repeat' (first | (with_reducible assumption) | (with_reducible refine Tab.alloc ?_ _) | (with_reducible refine Tab.drew ?_) | (with_reducible refine Tab.drewN ?_ _) | (with_reducible refine Tab.setCell ?_ ?_ ?_ _) | omega | (simp; done) | (simp; omega))) _ ?_ ?_) ?_); (focus (have HV1 := HV.out; (repeat' (first | (with_reducible assumption) | (with_reducible refine Sl.alloc ?_ _) | (with_reducible refine Sl.drew ?_) | (with_reducible refine Sl.drewN ?_ _) | (with_reducible refine Sl.call ?_ (by assumption)))))); (focus (have HV1 := HS1.out; (repeat' (first | (with_reducible assumption) | (with_reducible refine Sl.alloc ?_ _) | (with_reducible refine Sl.drew ?_) | (with_reducible refine Sl.drewN ?_ _) | (with_reducible refine Sl.call ?_ (by assumption)))))); rintro e' w2 ⟨rfl, hk2⟩; obtain ⟨hc2, hf2⟩ := bcell hk2.2; have ht2 := hk2.1; have hz2 := hk2.2.size; (try simp only [World.size_alloc] at hz2); (try simp only [sz_drew] at hz2); (try simp only [sz_drewN] at hz2); (try simp only [World.size_alloc] at hz2); (try simp only [sz_drew] at hc2 hf2); (try simp only [sz_drewN] at hc2 hf2); (try have hw2 : w.heap.size < w2.heap.size := by omega); (try have hv2 : w.heap.size + 1 < w2.heap.size := by omega); (try have hu2 : w.heap.size + 2 < w2.heap.size := by omega)))
  have hI2 := (hI.call hk1).call hk2
  clear hI hc1 hf1 hc2 hf2
  have HZ : Hid (Own w2 (w.heap.size + 1 + 1) 53 [.bool false, .slice none 0 0, .int .i64 0, .bool false]) := Lib.hid (hI2.own 2 _ rfl)
  have hJ : Inv w [(w.heap.size, 53, [.bool a, .slice (some ⟨b1, o1, none⟩) l1 c1, .int .i64 e, .bool false]), (w.heap.size + 1, 53, [.bool b, .slice (some ⟨b2, o2, none⟩) l2 c2, .int .i64 f, .bool false])] w2 := hI2.init (bs := [_, _])
  have zc : ∀ i, w2.cell? ⟨w.heap.size + 1 + 1, i, none⟩ = [.bool false, .slice none 0 0, .int .i64 0, .bool false][i]? := fun i => (hI2.own 2 _ rfl).cell i
  have z0 := zc 0
  have z1 := zc 1
  have z2 := zc 2
  have z3 := zc 3
  have zf := fun i => (hI2.own 2 _ rfl).frozen i
  have zl := (hI2.own 2 _ rfl).lt
  simp at z0 z1 z2 z3
  clear zc hI2
  have HP0 : Hid (∀ w', Inv w [(w.heap.size, 53, [.bool a, .slice (some ⟨b1, o1, none⟩) l1 c1, .int .i64 e, .bool false]), (w.heap.size + 1, 53, [.bool b, .slice (some ⟨b2, o2, none⟩) l2 c2, .int .i64 f, .bool false])] w' → Inv w [(w.heap.size, 53, [.bool a, .slice (some ⟨b1, o1, none⟩) l1 c1, .int .i64 e, .bool false]), (w.heap.size + 1, 53, [.bool b, .slice (some ⟨b2, o2, none⟩) l2 c2, .int .i64 f, .bool false])] w' ∧ Tab w' ∧ w'.cell? ⟨w.heap.size, 0, none⟩ = some (.bool a) ∧ w'.cell? ⟨w.heap.size, 1, none⟩ = some (.slice (some ⟨b1, o1, none⟩) l1 c1) ∧ w'.cell? ⟨w.heap.size, 2, none⟩ = some (.int .i64 e) ∧ w'.cell? ⟨w.heap.size + 1, 0, none⟩ = some (.bool b)) := Lib.hid (fun w' h => ⟨h, h.kept.1, (h.own 0 _ rfl).cell 0, (h.own 0 _ rfl).cell 1, (h.own 0 _ rfl).cell 2, (h.own 1 _ rfl).cell 0⟩)
  go_region_held3 (fun w' => Inv w [(w.heap.size, 53, [.bool a, .slice (some ⟨b1, o1, none⟩) l1 c1, .int .i64 e, .bool false]), (w.heap.size + 1, 53, [.bool b, .slice (some ⟨b2, o2, none⟩) l2 c2, .int .i64 f, .bool false])] w' ∧ Tab w' ∧ w'.cell? ⟨w.heap.size, 0, none⟩ = some (.bool a) ∧ w'.cell? ⟨w.heap.size, 1, none⟩ = some (.slice (some ⟨b1, o1, none⟩) l1 c1) ∧ w'.cell? ⟨w.heap.size, 2, none⟩ = some (.int .i64 e) ∧ w'.cell? ⟨w.heap.size + 1, 0, none⟩ = some (.bool b))
    ((refine HP0.out _ ?_; repeat' (first | (with_reducible assumption) | (with_reducible refine Inv.drew ?_) | (with_reducible refine Inv.alloc ?_ _) | (with_reducible refine Inv.call ?_ (by assumption)) | (with_reducible refine Inv.far ?_ ?_ ?_ ?_ ?_ _) | omega | (simp; done) | (simp; omega))))
    (first | (go_at_call 80; (with_reducible refine Calls.mono (HM.out _ (by repeat' (first | (with_reducible assumption) | (with_reducible refine Tab.alloc ?_ _) | (with_reducible refine Tab.drew ?_) | (with_reducible refine Tab.drewN ?_ _) | (with_reducible refine Tab.setCell ?_ ?_ ?_ _) | omega | (simp; done) | (simp; omega))) _ ?_ ?_) ?_); (focus (have HV1 := HV.out; have HV2 := HS1.out; (repeat' (first | (with_reducible assumption) | (with_reducible refine Sl.alloc ?_ _) | (with_reducible refine Sl.drew ?_) | (with_reducible refine Sl.drewN ?_ _) | (with_reducible refine Sl.call ?_ (by assumption)))))); (focus (have HV1 := HV.out; have HV2 := HS1.out; (repeat' (first | (with_reducible assumption) | (with_reducible refine Sl.alloc ?_ _) | (with_reducible refine Sl.drew ?_) | (with_reducible refine Sl.drewN ?_ _) | (with_reducible refine Sl.call ?_ (by assumption)))))); rintro e' w3 ⟨v3, rfl, hs3, hk3⟩; obtain ⟨p3, q3, r3, rfl, -⟩ := hs3.form; have HS3 := Lib.hid hs3; clear hs3; obtain ⟨hc3, hf3⟩ := bcell hk3.2; have ht3 := hk3.1; have hz3 := hk3.2.size; (try simp only [World.size_alloc] at hz3); (try simp only [sz_drew] at hz3); (try simp only [sz_drewN] at hz3); (try simp only [World.size_alloc] at hz3); (try simp only [sz_drew] at hc3 hf3); (try simp only [sz_drewN] at hc3 hf3); (try have hw3 : w.heap.size < w3.heap.size := by omega); (try have hv3 : w.heap.size + 1 < w3.heap.size := by omega); (try have hu3 : w.heap.size + 2 < w3.heap.size := by omega)))
  go_wp2_with fail
  have hO := (HZ.out.drew).call hk3
  have hF := ((((hO.put 0 (.bool a)).put 1 (.slice (some ⟨p3, q3, none⟩) (ds (n - k * 10 ^ j)).length r3)).put 2 (.int .i64 e)).put 3 (.bool false))
  refine bodyPost_ret (ret_own rfl hF rfl Tryd.underlying53 rfl (by kernel_rfl)) rfl ?_
  exact ⟨_, rfl, HS3.out.four hO _ _ _ _, (by repeat' (first | (with_reducible assumption) | (with_reducible exact Kept.refl ht) | (with_reducible refine Kept.alloc ?_ _) | (with_reducible refine Kept.drew ?_) | (with_reducible refine Kept.drewN ?_ _) | (with_reducible refine Kept.setCell ?_ ?_ _ ?_ ?_) | (with_reducible refine Kept.trans ?_ (by assumption)) | omega | (simp; done) | (simp; omega)))⟩
set_option maxRecDepth 100000 in
set_option maxHeartbeats 8000000 in
theorem rsum_1lt (a b : Bool) (n k j : Nat) (e f : Int) (v u : Value) (w : World) (ht : Tab w) (hv : Sl w v (ds n)) (hu : Sl w u (ds k)) (hj : f - e = (j : Int)) (hab : (a == b) = false) (hc : n < k * 10 ^ j) (hsw : e < f) (hn : dg n ≤ 100) (hk : dg k ≤ 100) (hj2 : j ≤ 2000) (he : -2000 ≤ e) (he2 : e ≤ 2000) :
    Calls Tryd.prog 39 #[.agg #[.bool b, u, .int .i64 f, .bool false], .agg #[.bool a, v, .int .i64 e, .bool false]] w fun x w' => ∃ v', x = .returned (.agg #[.bool b, v', .int .i64 e, .bool false]) ∧ Sl w' v' (ds (k * 10 ^ j - n)) ∧ Kept w w' := by
  have hlt := ht.lt
  have hlt0 := ht.lt0
  have HV := Lib.hid hv
  have HU := Lib.hid hu
  obtain ⟨b1, o1, c1, rfl, _⟩ := hv.form
  obtain ⟨b2, o2, c2, rfl, _⟩ := hu.form
  clear hv hu
  generalize (ds n).length = l1 at *
  generalize (ds k).length = l2 at *
  have hd := dg_mulle k (10 ^ j)
  have hd2 : dg (10 ^ j) ≤ j + 1 := (dg_iff _ _).2 (Nat.pow_lt_pow_right (by omega) (by omega))
  have hf2 : f ≤ 4000 := by omega
  have hf1 : -2000 ≤ f := by omega
  have HS : Hid (∀ W, Tab W → Sl W (.slice (some ⟨b2, o2, none⟩) l2 c2) (ds k) → Calls Tryd.prog 47 #[.slice (some ⟨b2, o2, none⟩) l2 c2, .int .i64 (j : Int)] W fun e w' => ∃ v', e = .returned v' ∧ Sl w' v' (ds (k * 10 ^ j)) ∧ Kept W w') := Lib.hid (fun W h h2 => refshift _ k j W h h2 (by omega) (by omega))
  have HM : Hid (∀ W, Tab W → ∀ x, Sl W x (ds (k * 10 ^ j)) → Sl W (.slice (some ⟨b1, o1, none⟩) l1 c1) (ds n) → Calls Tryd.prog 80 #[x, .slice (some ⟨b1, o1, none⟩) l1 c1] W fun e w' => ∃ v', e = .returned v' ∧ Sl w' v' (ds (k * 10 ^ j - n)) ∧ Kept W w') := Lib.hid (fun W h x h1 h2 => refminus x _ (k * 10 ^ j) n W h h1 h2 (by omega) (Nat.le_of_lt hc))
  obtain ⟨cc, hcc⟩ : ∃ c, cmpN n (k * 10 ^ j) = c := ⟨_, rfl⟩
  have cc0 : cc < 0 := by rw [← hcc]; rw [cmpN_lt hc]; decide
  have HC : Hid (∀ W, Tab W → ∀ x, Sl W (.slice (some ⟨b1, o1, none⟩) l1 c1) (ds n) → Sl W x (ds (k * 10 ^ j)) → Calls Tryd.prog 79 #[.slice (some ⟨b1, o1, none⟩) l1 c1, x] W fun e w' => e = .returned (.int .i64 cc) ∧ Kept W w') := Lib.hid (fun W h x h1 h2 => by
    have := refcmp _ x n (k * 10 ^ j) W h h1 h2 (by omega)
    rwa [hcc] at this)
  clear hd hd2 hn hk hcc hc
  go_enter Tryd.func39, Tryd.ntmps39
  go_upto_region 3 with fail
  have hI := Inv.three ht 53 [.bool a, .slice (some ⟨b1, o1, none⟩) l1 c1, .int .i64 e, .bool false] 53 [.bool b, .slice (some ⟨b2, o2, none⟩) l2 c2, .int .i64 f, .bool false] 53 [.bool false, .slice none 0 0, .int .i64 0, .bool false]
  go_upto_region 8 with (first | (go_at_call 47; (with_reducible refine Calls.mono (HS.out _ (by repeat' (first | (with_reducible assumption) | (with_reducible refine Tab.alloc ?_ _) | (with_reducible refine Tab.drew ?_) | (with_reducible refine Tab.drewN ?_ _) | (with_reducible refine Tab.setCell ?_ ?_ ?_ _) | omega | (simp; done) | (simp; omega))) ?_) ?_); (focus (have HU1 := HU.out; (repeat' (first | (with_reducible assumption) | (with_reducible refine Sl.alloc ?_ _) | (with_reducible refine Sl.drew ?_) | (with_reducible refine Sl.drewN ?_ _) | (with_reducible refine Sl.call ?_ (by assumption)))))); rintro e' w1 ⟨v1, rfl, hs1, hk1⟩; obtain ⟨p1, q1, r1, rfl, -⟩ := hs1.form; (obtain ⟨m1, hm1⟩ : ∃ m, (ds (k * 10 ^ j)).length = m := ⟨_, rfl⟩); have HS1 := Lib.hid hs1; rw [hm1] at HS1 ⊢; clear hs1 hm1; obtain ⟨hc1, hf1⟩ := bcell hk1.2; have ht1 := hk1.1; have hz1 := hk1.2.size; (try simp only [World.size_alloc] at hz1); (try simp only [sz_drew] at hz1); (try simp only [sz_drewN] at hz1); (try simp only [World.size_alloc] at hz1); (try simp only [sz_drew] at hc1 hf1); (try simp only [sz_drewN] at hc1 hf1); (try have hw1 : w.heap.size < w1.heap.size := by omega); (try have hv1 : w.heap.size + 1 < w1.heap.size := by omega); (try have hu1 : w.heap.size + 2 < w1.heap.size := by omega)) | (go_at_call 79; (with_reducible refine Calls.mono (HC.out _ (by repeat' (first | (with_reducible assumption) | (with_reducible refine Tab.alloc ?_ _) | (with_reducible refine Tab.drew ?_) | (with_reducible refine Tab.drewN ?_ _) | (with_reducible refine Tab.setCell ?_ ?_ ?_ _) | omega | (simp; done) | (simp; omega))) _ ?_ ?_) ?_); (focus (have HV1 := HV.out; (repeat' (first | (with_reducible assumption) | (with_reducible refine Sl.alloc ?_ _) | (with_reducible refine Sl.drew ?_) | (with_reducible refine Sl.drewN ?_ _) | (with_reducible refine Sl.call ?_ (by assumption)))))); (focus (have HV1 := HS1.out; (repeat' (first | (with_reducible assumption) | (with_reducible refine Sl.alloc ?_ _) | (with_reducible refine Sl.drew ?_) | (with_reducible refine Sl.drewN ?_ _) | (with_reducible refine Sl.call ?_ (by assumption)))))); rintro e' w2 ⟨rfl, hk2⟩; obtain ⟨hc2, hf2⟩ := bcell hk2.2; have ht2 := hk2.1; have hz2 := hk2.2.size; (try simp only [World.size_alloc] at hz2); (try simp only [sz_drew] at hz2); (try simp only [sz_drewN] at hz2); (try simp only [World.size_alloc] at hz2); (try simp only [sz_drew] at hc2 hf2); (try simp only [sz_drewN] at hc2 hf2); (try have hw2 : w.heap.size < w2.heap.size := by omega); (try have hv2 : w.heap.size + 1 < w2.heap.size := by omega); (try have hu2 : w.heap.size + 2 < w2.heap.size := by omega)))
  have hI2 := (hI.call hk1).call hk2
  clear hI hc1 hf1 hc2 hf2
  have HZ : Hid (Own w2 (w.heap.size + 1 + 1) 53 [.bool false, .slice none 0 0, .int .i64 0, .bool false]) := Lib.hid (hI2.own 2 _ rfl)
  have hJ : Inv w [(w.heap.size, 53, [.bool a, .slice (some ⟨b1, o1, none⟩) l1 c1, .int .i64 e, .bool false]), (w.heap.size + 1, 53, [.bool b, .slice (some ⟨b2, o2, none⟩) l2 c2, .int .i64 f, .bool false])] w2 := hI2.init (bs := [_, _])
  have zc : ∀ i, w2.cell? ⟨w.heap.size + 1 + 1, i, none⟩ = [.bool false, .slice none 0 0, .int .i64 0, .bool false][i]? := fun i => (hI2.own 2 _ rfl).cell i
  have z0 := zc 0
  have z1 := zc 1
  have z2 := zc 2
  have z3 := zc 3
  have zf := fun i => (hI2.own 2 _ rfl).frozen i
  have zl := (hI2.own 2 _ rfl).lt
  simp at z0 z1 z2 z3
  clear zc hI2
  have HP0 : Hid (∀ w', Inv w [(w.heap.size, 53, [.bool a, .slice (some ⟨b1, o1, none⟩) l1 c1, .int .i64 e, .bool false]), (w.heap.size + 1, 53, [.bool b, .slice (some ⟨b2, o2, none⟩) l2 c2, .int .i64 f, .bool false])] w' → Inv w [(w.heap.size, 53, [.bool a, .slice (some ⟨b1, o1, none⟩) l1 c1, .int .i64 e, .bool false]), (w.heap.size + 1, 53, [.bool b, .slice (some ⟨b2, o2, none⟩) l2 c2, .int .i64 f, .bool false])] w' ∧ Tab w' ∧ w'.cell? ⟨w.heap.size, 0, none⟩ = some (.bool a) ∧ w'.cell? ⟨w.heap.size, 1, none⟩ = some (.slice (some ⟨b1, o1, none⟩) l1 c1) ∧ w'.cell? ⟨w.heap.size, 2, none⟩ = some (.int .i64 e) ∧ w'.cell? ⟨w.heap.size + 1, 0, none⟩ = some (.bool b)) := Lib.hid (fun w' h => ⟨h, h.kept.1, (h.own 0 _ rfl).cell 0, (h.own 0 _ rfl).cell 1, (h.own 0 _ rfl).cell 2, (h.own 1 _ rfl).cell 0⟩)
  go_region_held3 (fun w' => Inv w [(w.heap.size, 53, [.bool a, .slice (some ⟨b1, o1, none⟩) l1 c1, .int .i64 e, .bool false]), (w.heap.size + 1, 53, [.bool b, .slice (some ⟨b2, o2, none⟩) l2 c2, .int .i64 f, .bool false])] w' ∧ Tab w' ∧ w'.cell? ⟨w.heap.size, 0, none⟩ = some (.bool a) ∧ w'.cell? ⟨w.heap.size, 1, none⟩ = some (.slice (some ⟨b1, o1, none⟩) l1 c1) ∧ w'.cell? ⟨w.heap.size, 2, none⟩ = some (.int .i64 e) ∧ w'.cell? ⟨w.heap.size + 1, 0, none⟩ = some (.bool b))
    ((refine HP0.out _ ?_; repeat' (first | (with_reducible assumption) | (with_reducible refine Inv.drew ?_) | (with_reducible refine Inv.alloc ?_ _) | (with_reducible refine Inv.call ?_ (by assumption)) | (with_reducible refine Inv.far ?_ ?_ ?_ ?_ ?_ _) | omega | (simp; done) | (simp; omega))))
    (first | (go_at_call 80; (with_reducible refine Calls.mono (HM.out _ (by repeat' (first | (with_reducible assumption) | (with_reducible refine Tab.alloc ?_ _) | (with_reducible refine Tab.drew ?_) | (with_reducible refine Tab.drewN ?_ _) | (with_reducible refine Tab.setCell ?_ ?_ ?_ _) | omega | (simp; done) | (simp; omega))) _ ?_ ?_) ?_); (focus (have HV1 := HV.out; have HV2 := HS1.out; (repeat' (first | (with_reducible assumption) | (with_reducible refine Sl.alloc ?_ _) | (with_reducible refine Sl.drew ?_) | (with_reducible refine Sl.drewN ?_ _) | (with_reducible refine Sl.call ?_ (by assumption)))))); (focus (have HV1 := HV.out; have HV2 := HS1.out; (repeat' (first | (with_reducible assumption) | (with_reducible refine Sl.alloc ?_ _) | (with_reducible refine Sl.drew ?_) | (with_reducible refine Sl.drewN ?_ _) | (with_reducible refine Sl.call ?_ (by assumption)))))); rintro e' w3 ⟨v3, rfl, hs3, hk3⟩; obtain ⟨p3, q3, r3, rfl, -⟩ := hs3.form; have HS3 := Lib.hid hs3; clear hs3; obtain ⟨hc3, hf3⟩ := bcell hk3.2; have ht3 := hk3.1; have hz3 := hk3.2.size; (try simp only [World.size_alloc] at hz3); (try simp only [sz_drew] at hz3); (try simp only [sz_drewN] at hz3); (try simp only [World.size_alloc] at hz3); (try simp only [sz_drew] at hc3 hf3); (try simp only [sz_drewN] at hc3 hf3); (try have hw3 : w.heap.size < w3.heap.size := by omega); (try have hv3 : w.heap.size + 1 < w3.heap.size := by omega); (try have hu3 : w.heap.size + 2 < w3.heap.size := by omega)))
  go_wp2_with fail
  have hO := (HZ.out.drew).call hk3
  have hF := ((((hO.put 0 (.bool b)).put 1 (.slice (some ⟨p3, q3, none⟩) (ds (k * 10 ^ j - n)).length r3)).put 2 (.int .i64 e)).put 3 (.bool false))
  refine bodyPost_ret (ret_own rfl hF rfl Tryd.underlying53 rfl (by kernel_rfl)) rfl ?_
  exact ⟨_, rfl, HS3.out.four hO _ _ _ _, (by repeat' (first | (with_reducible assumption) | (with_reducible exact Kept.refl ht) | (with_reducible refine Kept.alloc ?_ _) | (with_reducible refine Kept.drew ?_) | (with_reducible refine Kept.drewN ?_ _) | (with_reducible refine Kept.setCell ?_ ?_ _ ?_ ?_) | (with_reducible refine Kept.trans ?_ (by assumption)) | omega | (simp; done) | (simp; omega)))⟩
end Go.Proofs.YtanfhlkfmmglhaaDoor
/- The reference's Add and Sub. Condition: the tables hold what their initialisers lay. -/
namespace Go.Proofs.YtanfhlkfmmglhaaDoor
open Go.ChangeShapes Go.WideShapes Go.ChangeAt Go.RowKit
attribute [local go_sem ↓] Go.wp_at_zero Go.wp_at_succ

theorem sc_shift {k j : Nat} {e f : Int} (hj : f - e = (j : Int)) (he : -1100 ≤ e) : sc k f = sc (k * 10 ^ j) e := by
  unfold sc
  have : (f + 1100).toNat = j + (e + 1100).toNat := by omega
  rw [this, Nat.pow_add, Nat.mul_assoc]
theorem sc_plus (x y : Nat) (e : Int) : sc (x + y) e = sc x e + sc y e := by unfold sc; rw [Nat.add_mul]
theorem sg_diff (a : Bool) {x y : Nat} (h : y ≤ x) : sg a x + sg (!a) y = sg a (x - y) := by cases a <;> simp [sg] <;> omega
theorem sc_less {x y : Nat} (e : Int) (_h : y ≤ x) : sc (x - y) e = sc x e - sc y e := by unfold sc; rw [Nat.sub_mul]
theorem sc_le {x y : Nat} (e : Int) (h : y ≤ x) : sc y e ≤ sc x e := Nat.mul_le_mul_right _ h
theorem sum_ge {a b : Bool} {x y : Nat} {e : Int} (hab : (a == b) = false) (h : y ≤ x) : sg a (sc x e) + sg b (sc y e) = sg a (sc (x - y) e) := by
  have hb : b = !a := by cases a <;> cases b <;> simp_all
  rw [hb, sg_diff a (sc_le e h), sc_less e h]
theorem sum_lt {a b : Bool} {x y : Nat} {e : Int} (hab : (a == b) = false) (h : x < y) : sg a (sc x e) + sg b (sc y e) = sg b (sc (y - x) e) := by
  have ha : (b == a) = false := by cases a <;> cases b <;> simp_all
  rw [Int.add_comm]
  exact sum_ge ha (Nat.le_of_lt h)
theorem sum_eq {a b : Bool} {x y : Nat} {e : Int} (hab : (a == b) = true) : sg a (sc x e) + sg b (sc y e) = sg a (sc (x + y) e) := by
  obtain rfl : a = b := by simpa using hab
  rw [sg_same, sc_plus]
/-- What the reference's sum of two numbers is. -/
def RSumOf (a b : Bool) (n k : Nat) (e f : Int) (N : Int) : Prop :=
  ∃ (neg : Bool) (Q : Nat) (T : Int), (∀ w v u, Tab w → Sl w v (ds n) → Sl w u (ds k) → Calls Tryd.prog 39 #[.agg #[.bool a, v, .int .i64 e, .bool false], .agg #[.bool b, u, .int .i64 f, .bool false]] w fun x w' => ∃ v', x = .returned (.agg #[.bool neg, v', .int .i64 T, .bool false]) ∧ Sl w' v' (ds Q) ∧ Kept w w') ∧
    dg Q ≤ 9000 ∧ -1100 ≤ T ∧ T ≤ 5000 ∧ N = sg neg (sc Q T)
theorem dg_bound {n k j Q : Nat} (hn : dg n ≤ 18) (hk : dg k ≤ 18) (hj : j ≤ 1000) (hQ : Q ≤ n + k * 10 ^ j) : dg Q ≤ 9000 := by
  have h1 := dg_mulle k (10 ^ j)
  have h2 : dg (10 ^ j) ≤ j + 1 := (dg_iff _ _).2 (Nat.pow_lt_pow_right (by omega) (by omega))
  have h3 := dg_addle n (k * 10 ^ j)
  have h4 := dg_mono hQ
  omega
theorem rsum_any (a b : Bool) (n k : Nat) (e f : Int) (hn : dg n ≤ 18) (hk : dg k ≤ 18) (he1 : -420 ≤ e) (he2 : e ≤ 420) (hf1 : -420 ≤ f) (hf2 : f ≤ 420) : RSumOf a b n k e f (sg a (sc n e) + sg b (sc k f)) := by
  by_cases hef : e ≤ f
  · obtain ⟨j, hj⟩ : ∃ j : Nat, f - e = (j : Int) := ⟨(f - e).toNat, by omega⟩
    rw [sc_shift hj (by omega)]
    cases hab : (a == b)
    · rcases Nat.lt_or_ge n (k * 10 ^ j) with hc | hc
      · exact ⟨b, k * 10 ^ j - n, e, fun w v u ht hv hu => rsum_0lt a b n k j e f v u w ht hv hu hj hab hc hef (by omega) (by omega) (by omega) (by omega) (by omega), dg_bound (j := j) hn hk (by omega) (by omega), by omega, by omega, sum_lt hab hc⟩
      · exact ⟨a, n - k * 10 ^ j, e, fun w v u ht hv hu => rsum_0ge a b n k j e f v u w ht hv hu hj hab hc hef (by omega) (by omega) (by omega) (by omega) (by omega), dg_bound (j := j) hn hk (by omega) (by omega), by omega, by omega, sum_ge hab hc⟩
    · exact ⟨a, n + k * 10 ^ j, e, fun w v u ht hv hu => rsum_0eq a b n k j e f v u w ht hv hu hj hab hef (by omega) (by omega) (by omega) (by omega) (by omega), dg_bound (j := j) hn hk (by omega) (by omega), by omega, by omega, sum_eq hab⟩
  · obtain ⟨j, hj⟩ : ∃ j : Nat, e - f = (j : Int) := ⟨(e - f).toNat, by omega⟩
    rw [sc_shift hj (by omega), Int.add_comm]
    have hfe : f < e := by omega
    cases hab : (b == a)
    · rcases Nat.lt_or_ge k (n * 10 ^ j) with hc | hc
      · exact ⟨a, n * 10 ^ j - k, f, fun w v u ht hv hu => rsum_1lt b a k n j f e u v w ht hu hv hj hab hc hfe (by omega) (by omega) (by omega) (by omega) (by omega), dg_bound (j := j) hk hn (by omega) (by omega), by omega, by omega, sum_lt hab hc⟩
      · exact ⟨b, k - n * 10 ^ j, f, fun w v u ht hv hu => rsum_1ge b a k n j f e u v w ht hu hv hj hab hc hfe (by omega) (by omega) (by omega) (by omega) (by omega), dg_bound (j := j) hk hn (by omega) (by omega), by omega, by omega, sum_ge hab hc⟩
    · exact ⟨b, k + n * 10 ^ j, f, fun w v u ht hv hu => rsum_1eq b a k n j f e u v w ht hu hv hj hab hfe (by omega) (by omega) (by omega) (by omega) (by omega), dg_bound (j := j) hk hn (by omega) (by omega), by omega, by omega, sum_eq hab⟩
set_option maxRecDepth 100000 in
set_option maxHeartbeats 16000000 in
theorem radd_good (s how a e b f M E X : Int) (w : World) (ht : Tab w) (hc : ckR s how [(a, e), (b, f)] = 0) (hM : aRes s how a e b f = ⟨M, E, X⟩) :
    Calls Tryd.prog 8 #[.int .i64 s, .int .i64 how, .agg #[.int .i64 a, .int .i64 e], .agg #[.int .i64 b, .int .i64 f]] w fun x w' => x = .returned (.tuple #[.agg #[.int .i64 M, .int .i64 E], .int .i64 X]) ∧ Kept w w' := by
  have hlt := ht.lt
  have hlt0 := ht.lt0
  obtain ⟨hd, v1, v2⟩ := ck_facts hc
  obtain ⟨hs, a1, a2, a3, a4, a5⟩ := vld_facts v1
  obtain ⟨_, b1, b2, b3, b4, b5⟩ := vld_facts v2
  have hsz : isSz s = true := decide_eq_true hs
  have hck := fun w ht => refright s how a e b f w ht (by omega) (by omega) (by omega) (by omega)
  rw [hc] at hck
  have HC := Lib.hid hck
  have H1 := Lib.hid (fun w ht => refExactly a e w ht (by omega) (by omega))
  have H2 := Lib.hid (fun w ht => refExactly b f w ht (by omega) (by omega))
  obtain ⟨neg, Q, T, h3, q1, q2, q3, hN⟩ := rsum_any (decide (a < 0)) (decide (b < 0)) (mag a) (mag b) e f (dg18 a1) (dg18 b1) (by omega) (by omega) (by omega) (by omega)
  have hr : rRes (pr s) how neg (sc Q T) false = ⟨M, E, X⟩ := by
    rw [(same_exact (p := pr s) hN).eq how, ← hM]
    unfold aRes
    rw [okOr_zero _ hc]
    rfl
  have H3 := Lib.hid h3
  have H4 := Lib.hid (fun (v : Value) w ht h => gives_out2 hr (refRounded s how neg false Q T v w ht h hsz hd (by omega) (by omega) (by omega) (fun h => by cases h)))
  obtain ⟨na, hna⟩ : ∃ x, decide (a < 0) = x := ⟨_, rfl⟩
  obtain ⟨nb, hnb⟩ : ∃ x, decide (b < 0) = x := ⟨_, rfl⟩
  rw [hna] at H1 H3
  rw [hnb] at H2 H3
  clear hck hc v1 v2 a1 b1 hM hr hs hsz hd h3 q1 q2 q3 hN hna hnb
  go_enter Tryd.func8, Tryd.ntmps8
  go_upto_region 4 with (first | (go_at_call 37; (with_reducible refine (HC.out _ (by repeat' (first | (with_reducible assumption) | (with_reducible refine Tab.alloc ?_ _) | (with_reducible refine Tab.drew ?_) | (with_reducible refine Tab.drewN ?_ _) | (with_reducible refine Tab.setCell ?_ ?_ ?_ _) | omega | (simp; done) | (simp; omega)))).mono ?_); rintro e w1 ⟨rfl, hk1⟩; obtain ⟨hc1, hf1⟩ := bcell hk1.2; have ht1 := hk1.1; have hz1 := hk1.2.size; (try simp only [World.size_alloc] at hz1); (try simp only [sz_drew] at hz1); (try simp only [sz_drewN] at hz1); (try simp only [World.size_alloc] at hz1); (try simp only [sz_drew] at hc1 hf1); (try simp only [sz_drewN] at hc1 hf1); (try have hw1 : w.heap.size < w1.heap.size := by omega); (try have hv1 : w.heap.size + 1 < w1.heap.size := by omega); (try have hu1 : w.heap.size + 2 < w1.heap.size := by omega)))
  have hI := (Inv.three ht 25 [.int .i64 a, .int .i64 e] 25 [.int .i64 b, .int .i64 f] 25 [.int .i64 0, .int .i64 0]).call hk1
  clear hc1 hf1
  have HZ : Hid (Own w1 (w.heap.size + 1 + 1) 25 [.int .i64 0, .int .i64 0]) := Lib.hid (hI.own 2 _ rfl)
  have hJ : Inv w [(w.heap.size, 25, [.int .i64 a, .int .i64 e]), (w.heap.size + 1, 25, [.int .i64 b, .int .i64 f])] w1 := hI.init (bs := [_, _])
  (have z0 : w1.cell? ⟨w.heap.size + 1 + 1, 0, none⟩ = some (.int .i64 0) := (hI.own 2 _ rfl).cell 0; have z1 : w1.cell? ⟨w.heap.size + 1 + 1, 1, none⟩ = some (.int .i64 0) := (hI.own 2 _ rfl).cell 1; have zf := fun i => (hI.own 2 _ rfl).frozen i; have zl : w.heap.size + 1 + 1 < w1.heap.size := (hI.own 2 _ rfl).lt)
  clear hI
  go_region_held3 (fun w' => Inv w [(w.heap.size, 25, [.int .i64 a, .int .i64 e]), (w.heap.size + 1, 25, [.int .i64 b, .int .i64 f])] w' ∧ Tab w' ∧ w'.cell? ⟨w.heap.size, 0, none⟩ = some (.int .i64 a) ∧ w'.cell? ⟨w.heap.size, 1, none⟩ = some (.int .i64 e) ∧ w'.cell? ⟨w.heap.size + 1, 0, none⟩ = some (.int .i64 b) ∧ w'.cell? ⟨w.heap.size + 1, 1, none⟩ = some (.int .i64 f))
    ((refine reals_pack ?_; repeat' (first | (with_reducible assumption) | (with_reducible refine Inv.drew ?_) | (with_reducible refine Inv.alloc ?_ _) | (with_reducible refine Inv.call ?_ (by assumption)) | (with_reducible refine Inv.far ?_ ?_ ?_ ?_ ?_ _) | omega | (simp; done) | (simp; omega))))
    (first | (go_at_call 40; (with_reducible refine (H1.out _ (by repeat' (first | (with_reducible assumption) | (with_reducible refine Tab.alloc ?_ _) | (with_reducible refine Tab.drew ?_) | (with_reducible refine Tab.drewN ?_ _) | (with_reducible refine Tab.setCell ?_ ?_ ?_ _) | omega | (simp; done) | (simp; omega)))).mono ?_); rintro e w2 ⟨v2, rfl, hs2, hk2, hn2⟩; obtain ⟨b2, o2, c2, rfl, hb2⟩ := hs2.form; have hm2 := hn2 _ _ _ _ rfl; obtain ⟨hc2, hf2⟩ := bcell hk2.2; have ht2 := hk2.1; have hz2 := hk2.2.size; (try simp only [World.size_alloc] at hz2); (try simp only [sz_drew] at hz2); (try simp only [sz_drewN] at hz2); (try simp only [World.size_alloc] at hz2); (try simp only [sz_drew] at hc2 hf2); (try simp only [sz_drewN] at hc2 hf2); (try have hw2 : w.heap.size < w2.heap.size := by omega); (try have hv2 : w.heap.size + 1 < w2.heap.size := by omega); (try have hu2 : w.heap.size + 2 < w2.heap.size := by omega)) | (go_at_call 40; (with_reducible refine (H2.out _ (by repeat' (first | (with_reducible assumption) | (with_reducible refine Tab.alloc ?_ _) | (with_reducible refine Tab.drew ?_) | (with_reducible refine Tab.drewN ?_ _) | (with_reducible refine Tab.setCell ?_ ?_ ?_ _) | omega | (simp; done) | (simp; omega)))).mono ?_); rintro e w3 ⟨v3, rfl, hs3, hk3, hn3⟩; obtain ⟨b3, o3, c3, rfl, hb3⟩ := hs3.form; have hm3 := hn3 _ _ _ _ rfl; obtain ⟨hc3, hf3⟩ := bcell hk3.2; have ht3 := hk3.1; have hz3 := hk3.2.size; (try simp only [World.size_alloc] at hz3); (try simp only [sz_drew] at hz3); (try simp only [sz_drewN] at hz3); (try simp only [World.size_alloc] at hz3); (try simp only [sz_drew] at hc3 hf3); (try simp only [sz_drewN] at hc3 hf3); (try have hw3 : w.heap.size < w3.heap.size := by omega); (try have hv3 : w.heap.size + 1 < w3.heap.size := by omega); (try have hu3 : w.heap.size + 2 < w3.heap.size := by omega)) | (go_at_call 39; (with_reducible refine Calls.mono (H3.out _ _ _ (by repeat' (first | (with_reducible assumption) | (with_reducible refine Tab.alloc ?_ _) | (with_reducible refine Tab.drew ?_) | (with_reducible refine Tab.drewN ?_ _) | (with_reducible refine Tab.setCell ?_ ?_ ?_ _) | omega | (simp; done) | (simp; omega))) ?_ ?_) ?_); (focus (repeat' (first | (with_reducible assumption) | (with_reducible refine Sl.alloc ?_ _) | (with_reducible refine Sl.drew ?_) | (with_reducible refine Sl.drewN ?_ _) | (with_reducible refine Sl.call ?_ (by assumption))))); (focus (repeat' (first | (with_reducible assumption) | (with_reducible refine Sl.alloc ?_ _) | (with_reducible refine Sl.drew ?_) | (with_reducible refine Sl.drewN ?_ _) | (with_reducible refine Sl.call ?_ (by assumption))))); rintro e w4 ⟨v4, rfl, hs4, hk4⟩; obtain ⟨p4, q4, r4, rfl, -⟩ := hs4.form; obtain ⟨hc4, hf4⟩ := bcell hk4.2; have ht4 := hk4.1; have hz4 := hk4.2.size; (try simp only [World.size_alloc] at hz4); (try simp only [sz_drew] at hz4); (try simp only [sz_drewN] at hz4); (try simp only [World.size_alloc] at hz4); (try simp only [sz_drew] at hc4 hf4); (try simp only [sz_drewN] at hc4 hf4); (try have hw4 : w.heap.size < w4.heap.size := by omega); (try have hv4 : w.heap.size + 1 < w4.heap.size := by omega); (try have hu4 : w.heap.size + 2 < w4.heap.size := by omega)) | (go_at_call 38; (with_reducible refine Calls.mono (H4.out _ _ (by repeat' (first | (with_reducible assumption) | (with_reducible refine Tab.alloc ?_ _) | (with_reducible refine Tab.drew ?_) | (with_reducible refine Tab.drewN ?_ _) | (with_reducible refine Tab.setCell ?_ ?_ ?_ _) | omega | (simp; done) | (simp; omega))) ?_) ?_); (focus (repeat' (first | (with_reducible assumption) | (with_reducible refine Sl.alloc ?_ _) | (with_reducible refine Sl.drew ?_) | (with_reducible refine Sl.drewN ?_ _) | (with_reducible refine Sl.call ?_ (by assumption))))); rintro e w5 ⟨rfl, hk5⟩; obtain ⟨hc5, hf5⟩ := bcell hk5.2; have ht5 := hk5.1; have hz5 := hk5.2.size; (try simp only [World.size_alloc] at hz5); (try simp only [sz_drew] at hz5); (try simp only [sz_drewN] at hz5); (try simp only [World.size_alloc] at hz5); (try simp only [sz_drew] at hc5 hf5); (try simp only [sz_drewN] at hc5 hf5); (try have hw5 : w.heap.size < w5.heap.size := by omega); (try have hv5 : w.heap.size + 1 < w5.heap.size := by omega); (try have hu5 : w.heap.size + 2 < w5.heap.size := by omega)))
  go_wp2_with fail
  have hF := (((((HZ.out.drew.call hk2).call hk3).call hk4).call hk5).put 0 (.int .i64 M)).put 1 (.int .i64 E)
  refine bodyPost_ret (ret_own_tmp rfl hF rfl Tryd.underlying25 rfl (by kernel_rfl)) rfl ?_
  exact ⟨rfl, (by repeat' (first | (with_reducible assumption) | (with_reducible exact Kept.refl ht) | (with_reducible refine Kept.alloc ?_ _) | (with_reducible refine Kept.drew ?_) | (with_reducible refine Kept.drewN ?_ _) | (with_reducible refine Kept.setCell ?_ ?_ _ ?_ ?_) | (with_reducible refine Kept.trans ?_ (by assumption)) | omega | (simp; done) | (simp; omega)))⟩
theorem radd_any (s how a e b f : Int) (w : World) (ht : Tab w) (la : -9223372036854775808 ≤ a) (ha : a ≤ 9223372036854775807) (lb : -9223372036854775808 ≤ b) (hb : b ≤ 9223372036854775807) :
    Calls Tryd.prog 8 #[.int .i64 s, .int .i64 how, .agg #[.int .i64 a, .int .i64 e], .agg #[.int .i64 b, .int .i64 f]] w (Gives (aRes s how a e b f) w) := by
  rcases ck_cases (c := ckR s how [(a, e), (b, f)]) with hc | hc
  · exact gives_mk _ _ _ (radd_good s how a e b f _ _ _ w ht hc rfl)
  · unfold aRes
    rw [okOr_ne _ hc]
    exact gives_mk _ _ _ (radd_bad s how a e b f _ w ht la ha lb hb rfl hc)
theorem vld_minus {s b f : Int} (h : vld s b f = true) : vld s (-b) f = true := by
  unfold vld at *
  rw [Bool.and_eq_true] at *
  refine ⟨h.1, ?_⟩
  have hm : mag (-b) = mag b := by unfold mag; omega
  by_cases h0 : b = 0
  · subst h0; exact h.2
  · rw [if_neg h0] at h
    rw [if_neg (by omega), hm]
    have := of_decide_eq_true h.2
    exact decide_eq_true ⟨by omega, this.2⟩
theorem ck_minus {s how a e b f : Int} (h : ckR s how [(a, e), (b, f)] = 0) : ckR s how [(a, e), (-b, f)] = 0 := by
  obtain ⟨h1, h2, h3⟩ := ck_facts h
  have hs := (vld_facts h2).1
  unfold ckR ckO
  rw [show isSz s = true from decide_eq_true hs, h1]
  simp [h2, vld_minus h3]
set_option maxRecDepth 100000 in
set_option maxHeartbeats 16000000 in
theorem rsub_good (s how a e b f M E X : Int) (w : World) (ht : Tab w) (hc : ckR s how [(a, e), (b, f)] = 0) (hM : bRes s how a e b f = ⟨M, E, X⟩) :
    Calls Tryd.prog 10 #[.int .i64 s, .int .i64 how, .agg #[.int .i64 a, .int .i64 e], .agg #[.int .i64 b, .int .i64 f]] w fun x w' => x = .returned (.tuple #[.agg #[.int .i64 M, .int .i64 E], .int .i64 X]) ∧ Kept w w' := by
  have hlt := ht.lt
  have hlt0 := ht.lt0
  obtain ⟨hd, v1, v2⟩ := ck_facts hc
  obtain ⟨hs, a1, a2, a3, a4, a5⟩ := vld_facts v1
  obtain ⟨_, b1, b2, b3, b4, b5⟩ := vld_facts v2
  have hsz : isSz s = true := decide_eq_true hs
  have hck := fun w ht => refright s how a e b f w ht (by omega) (by omega) (by omega) (by omega)
  rw [hc] at hck
  have HC := Lib.hid hck
  have hr : aRes s how a e (-b) f = ⟨M, E, X⟩ := by
    rw [← hM]
    unfold aRes bRes
    rw [okOr_zero _ hc, okOr_zero _ (ck_minus hc)]
  have H3 := Lib.hid (fun w ht => gives_out2 hr (radd_any s how a e (-b) f w ht (by omega) (by omega) (by omega) (by omega)))
  clear hck hc v1 v2 a1 b1 hM hr hs hsz hd
  go_enter Tryd.func10, Tryd.ntmps10
  go_upto_region 4 with (first | (go_at_call 37; (with_reducible refine (HC.out _ (by repeat' (first | (with_reducible assumption) | (with_reducible refine Tab.alloc ?_ _) | (with_reducible refine Tab.drew ?_) | (with_reducible refine Tab.drewN ?_ _) | (with_reducible refine Tab.setCell ?_ ?_ ?_ _) | omega | (simp; done) | (simp; omega)))).mono ?_); rintro e w1 ⟨rfl, hk1⟩; obtain ⟨hc1, hf1⟩ := bcell hk1.2; have ht1 := hk1.1; have hz1 := hk1.2.size; (try simp only [World.size_alloc] at hz1); (try simp only [sz_drew] at hz1); (try simp only [sz_drewN] at hz1); (try simp only [World.size_alloc] at hz1); (try simp only [sz_drew] at hc1 hf1); (try simp only [sz_drewN] at hc1 hf1); (try have hw1 : w.heap.size < w1.heap.size := by omega); (try have hv1 : w.heap.size + 1 < w1.heap.size := by omega); (try have hu1 : w.heap.size + 2 < w1.heap.size := by omega)))
  have hI := (Inv.three ht 25 [.int .i64 a, .int .i64 e] 25 [.int .i64 b, .int .i64 f] 25 [.int .i64 0, .int .i64 0]).call hk1
  clear hc1 hf1
  have HZ : Hid (Own w1 (w.heap.size + 1 + 1) 25 [.int .i64 0, .int .i64 0]) := Lib.hid (hI.own 2 _ rfl)
  (have x0 : w1.cell? ⟨w.heap.size, 0, none⟩ = some (.int .i64 a) := (hI.own 0 _ rfl).cell 0; have x1 : w1.cell? ⟨w.heap.size, 1, none⟩ = some (.int .i64 e) := (hI.own 0 _ rfl).cell 1; have xf := fun i => (hI.own 0 _ rfl).frozen i; have xl : w.heap.size < w1.heap.size := (hI.own 0 _ rfl).lt)
  (have y0 : w1.cell? ⟨w.heap.size + 1, 0, none⟩ = some (.int .i64 b) := (hI.own 1 _ rfl).cell 0; have y1 : w1.cell? ⟨w.heap.size + 1, 1, none⟩ = some (.int .i64 f) := (hI.own 1 _ rfl).cell 1; have yf := fun i => (hI.own 1 _ rfl).frozen i; have yl : w.heap.size + 1 < w1.heap.size := (hI.own 1 _ rfl).lt)
  (have z0 : w1.cell? ⟨w.heap.size + 1 + 1, 0, none⟩ = some (.int .i64 0) := (hI.own 2 _ rfl).cell 0; have z1 : w1.cell? ⟨w.heap.size + 1 + 1, 1, none⟩ = some (.int .i64 0) := (hI.own 2 _ rfl).cell 1; have zf := fun i => (hI.own 2 _ rfl).frozen i; have zl : w.heap.size + 1 + 1 < w1.heap.size := (hI.own 2 _ rfl).lt)
  clear hI
  go_wp2_with (first | (go_at_call 8; (with_reducible refine (H3.out _ (by repeat' (first | (with_reducible assumption) | (with_reducible refine Tab.alloc ?_ _) | (with_reducible refine Tab.drew ?_) | (with_reducible refine Tab.drewN ?_ _) | (with_reducible refine Tab.setCell ?_ ?_ ?_ _) | omega | (simp; done) | (simp; omega)))).mono ?_); rintro e w2 ⟨rfl, hk2⟩; obtain ⟨hc2, hf2⟩ := bcell hk2.2; have ht2 := hk2.1; have hz2 := hk2.2.size; (try simp only [World.size_alloc] at hz2); (try simp only [sz_drew] at hz2); (try simp only [sz_drewN] at hz2); (try simp only [World.size_alloc] at hz2); (try simp only [sz_drew] at hc2 hf2); (try simp only [sz_drewN] at hc2 hf2); (try have hw2 : w.heap.size < w2.heap.size := by omega); (try have hv2 : w.heap.size + 1 < w2.heap.size := by omega); (try have hu2 : w.heap.size + 2 < w2.heap.size := by omega)))
  have hF := ((HZ.out.call hk2).put 0 (.int .i64 M)).put 1 (.int .i64 E)
  refine bodyPost_ret (ret_own_tmp rfl hF rfl Tryd.underlying25 rfl (by kernel_rfl)) rfl ?_
  exact ⟨rfl, (by repeat' (first | (with_reducible assumption) | (with_reducible exact Kept.refl ht) | (with_reducible refine Kept.alloc ?_ _) | (with_reducible refine Kept.drew ?_) | (with_reducible refine Kept.drewN ?_ _) | (with_reducible refine Kept.setCell ?_ ?_ _ ?_ ?_) | (with_reducible refine Kept.trans ?_ (by assumption)) | omega | (simp; done) | (simp; omega)))⟩
theorem rsub_any (s how a e b f : Int) (w : World) (ht : Tab w) (la : -9223372036854775808 ≤ a) (ha : a ≤ 9223372036854775807) (lb : -9223372036854775808 ≤ b) (hb : b ≤ 9223372036854775807) :
    Calls Tryd.prog 10 #[.int .i64 s, .int .i64 how, .agg #[.int .i64 a, .int .i64 e], .agg #[.int .i64 b, .int .i64 f]] w (Gives (bRes s how a e b f) w) := by
  rcases ck_cases (c := ckR s how [(a, e), (b, f)]) with hc | hc
  · exact gives_mk _ _ _ (rsub_good s how a e b f _ _ _ w ht hc rfl)
  · unfold bRes
    rw [okOr_ne _ hc]
    exact gives_mk _ _ _ (rsub_bad s how a e b f _ w ht la ha lb hb rfl hc)
end Go.Proofs.YtanfhlkfmmglhaaDoor
