/- The program's comparison of absolute values whose exponents lie near each other. Condition: the tables hold what their initialisers lay. -/
import Derived.Test.YtanfhlkfmmglhaaDoorGComp
namespace Go.Proofs.YtanfhlkfmmglhaaDoor
open Go.ChangeShapes Go.WideShapes Go.ChangeAt Go.RowKit
attribute [local go_sem ↓] Go.wp_at_zero Go.wp_at_succ

theorem Own.new2 (w : World) (o1 o2 : Obj) (t : TypeId) (l : List Value) : Own (((w.alloc o1).alloc o2).alloc (.cells l.toArray t)) (w.heap.size + 1 + 1) t l := by
  have h := Own.new ((w.alloc o1).alloc o2) t l
  rw [World.size_alloc, World.size_alloc] at h
  exact h
theorem Own.new3 (w : World) (o1 o2 o3 : Obj) (t : TypeId) (l : List Value) : Own ((((w.alloc o1).alloc o2).alloc o3).alloc (.cells l.toArray t)) (w.heap.size + 1 + 1 + 1) t l := by
  have h := Own.new (((w.alloc o1).alloc o2).alloc o3) t l
  rw [World.size_alloc, World.size_alloc, World.size_alloc] at h
  exact h
theorem Own.new' {w : World} {g : Nat} {t : TypeId} {l : List Value} (hg : w.heap.size = g) : Own (w.alloc (.cells l.toArray t)) g t l := by subst hg; exact Own.new w t l
theorem Own.put' {w : World} {g : Nat} {t : TypeId} {l l' : List Value} (h : Own w g t l) (i : Nat) (u : Value) (hl : l.set i u = l') : Own (w.setCell ⟨g, i, none⟩ u) g t l' := by subst hl; exact h.put i u
theorem Inv.pair {w w' : World} {bs : List (Nat × TypeId × List Value)} {g1 g2 : Nat} {t1 t2 : TypeId} {l1 l2 : List Value} (h : Inv w bs w') (h1 : Own w' g1 t1 l1) (h2 : Own w' g2 t2 l2) : Inv w [(g1, t1, l1), (g2, t2, l2)] w' :=
  ⟨h.kept, fun i x hx => by
    match i, hx with
    | 0, hx => obtain rfl := Option.some.inj hx; exact h1
    | 1, hx => obtain rfl := Option.some.inj hx; exact h2
    | i + 2, hx => simp at hx⟩
theorem mag_lt {m : Int} (lo : -9223372036854775808 ≤ m) (hi : m ≤ 9223372036854775807) : mag m ≤ 9223372036854775808 := by unfold mag; omega
theorem cmpN_of {X Y : Nat} {p q : Bool} (hp : decide (X < Y) = p) (hq : decide (Y < X) = q) : cmpN X Y = if p = true then -1 else if q = true then 1 else 0 := by
  subst hp hq
  unfold cmpN
  simp

theorem cn_pack {w w' : World} {a e b f : Int} {d : Nat} (hd : d < 20) (h : Inv w [(w.heap.size, 25, [.int .i64 a, .int .i64 e]), (w.heap.size + 1, 25, [.int .i64 b, .int .i64 f])] w') :
    Inv w [(w.heap.size, 25, [.int .i64 a, .int .i64 e]), (w.heap.size + 1, 25, [.int .i64 b, .int .i64 f])] w' ∧ Tab w' ∧ w'.cell? ⟨w.heap.size, 0, none⟩ = some (.int .i64 a) ∧ w'.cell? ⟨w.heap.size + 1, 0, none⟩ = some (.int .i64 b) ∧ w'.cell? ⟨0, d, none⟩ = some (.int .u64 (tn d : Int)) :=
  ⟨h, h.kept.1, (h.own 0 _ rfl).cell 0, (h.own 1 _ rfl).cell 0, h.kept.1.tens d hd⟩
set_option maxRecDepth 100000 in
set_option maxHeartbeats 8000000 in
theorem cmpmag_near (a e b f : Int) (d X Y : Nat) (w : World) (ht : Tab w) (la : -9223372036854775808 ≤ a) (ha : a ≤ 9223372036854775807) (lb : -9223372036854775808 ≤ b) (hb : b ≤ 9223372036854775807)
    (hg : e - f = (d : Int)) (hd : d < 20) (hX : mag a * 10 ^ d = X) (hY : mag b = Y) :
    Calls Tryd.prog 57 #[.agg #[.int .i64 a, .int .i64 e], .agg #[.int .i64 b, .int .i64 f]] w fun x w' => x = .returned (.int .i64 (cmpN X Y)) ∧ Kept w w' := by
  have hlt := ht.lt
  have hlt0 := ht.lt0
  have tc := ht.tens d hd
  have hTd : tn d < 18446744073709551616 := Nat.lt_of_le_of_lt (p10_le (show d ≤ 19 by omega)) (by decide)
  have hma := mag_lt la ha
  have hmb := mag_lt lb hb
  have hNX : mag a * tn d < 340282366920938463463374607431768211456 := by
    have := Nat.mul_le_mul hma (Nat.le_of_lt hTd)
    omega
  have hW := gap_wrap hg (by omega) (by omega)
  have hef : decide (e < f) = false := decide_eq_false (by omega)
  have hd2 : decide ((19 : Int) < (d : Int)) = false := decide_eq_false (by omega)
  have hd20i : (d : Int) < 20 := by omega
  have hdn : (0 : Int) ≤ (d : Int) := by omega
  have e1 : ((hiW (mag a) : Nat) : Int) = 0 := by unfold hiW; omega
  have e2 : ((loW (mag a) : Nat) : Int) = (mag a : Int) := by unfold loW; omega
  have e3 : ((hiW Y : Nat) : Int) = 0 := by rw [← hY]; unfold hiW; omega
  have e4 : ((loW Y : Nat) : Int) = (mag b : Int) := by rw [← hY]; unfold loW; omega
  have h1 := fun w => magnitude_any a w la ha
  have h2 := fun w => magnitude_any b w lb hb
  have h3 := fun w ht => times_any (mag a) (tn d) w ht hTd hNX
  have hXt : mag a * tn d = X := hX
  rw [hXt, e1, e2] at h3
  have h4 := fun w ht => less_any X Y w ht
  have h5 := fun w ht => less_any Y X w ht
  rw [e3, e4] at h4 h5
  obtain ⟨p, hp⟩ : ∃ p, decide (X < Y) = p := ⟨_, rfl⟩
  obtain ⟨q, hq⟩ : ∃ q, decide (Y < X) = q := ⟨_, rfl⟩
  rw [hp] at h4
  rw [hq] at h5
  rw [cmpN_of hp hq]
  generalize (mag a : Int) = u at h1 h3
  generalize (mag b : Int) = v at h2 h4 h5
  have H1 := Lib.hid h1
  have H2 := Lib.hid h2
  have H3 := Lib.hid h3
  have H4 := Lib.hid h4
  have H5 := Lib.hid h5
  clear h1 h2 h3 h4 h5 hXt hX hY e1 e2 e3 e4 hp hq hNX hma hmb hTd hg la ha lb hb
  go_enter Tryd.func57, Tryd.ntmps57
  go_upto_region 6 with fail
  have hI := (Inv.two ht 25 [.int .i64 a, .int .i64 e] 25 [.int .i64 b, .int .i64 f])
  go_cut [6, 7] (fun s6 s7 wx => ∃ A B : Nat, s6 = .pointer (some ⟨A, 0, none⟩) ∧ s7 = .pointer (some ⟨B, 0, none⟩) ∧ Inv w [(A, 42, [.int .u64 (hiW X : Int), .int .u64 (loW X : Int)]), (B, 42, [.int .u64 0, .int .u64 v])] wx)
  case first =>
    go_region_held3 (fun w' => Inv w [(w.heap.size, 25, [.int .i64 a, .int .i64 e]), (w.heap.size + 1, 25, [.int .i64 b, .int .i64 f])] w' ∧ Tab w' ∧ w'.cell? ⟨w.heap.size, 0, none⟩ = some (.int .i64 a) ∧ w'.cell? ⟨w.heap.size + 1, 0, none⟩ = some (.int .i64 b) ∧ w'.cell? ⟨0, d, none⟩ = some (.int .u64 (tn d : Int)))
      ((refine cn_pack hd ?_; repeat' (first | (with_reducible assumption) | (with_reducible refine Inv.drew ?_) | (with_reducible refine Inv.alloc ?_ _) | (with_reducible refine Inv.call ?_ (by assumption)) | (with_reducible refine Inv.far ?_ ?_ ?_ ?_ ?_ _) | omega | (simp; done) | (simp; omega))))
      (first | (go_at_call 67; (with_reducible refine (H1.out _).mono ?_); rintro e w' ⟨rfl, rfl⟩) | (go_at_call 67; (with_reducible refine (H2.out _).mono ?_); rintro e w' ⟨rfl, rfl⟩) | (go_at_call 64; (with_reducible refine (H3.out _ (by repeat' (first | (with_reducible assumption) | (with_reducible refine Tab.alloc ?_ _) | (with_reducible refine Tab.drew ?_) | (with_reducible refine Tab.drewN ?_ _) | (with_reducible refine Tab.setCell ?_ ?_ ?_ _) | omega | (simp; done) | (simp; omega)))).mono ?_); rintro e w2 ⟨rfl, hk2⟩; obtain ⟨hc2, hf2⟩ := bcell hk2.2; have ht2 := hk2.1; have hz2 := hk2.2.size; (try simp only [World.size_alloc] at hz2); (try simp only [sz_drew] at hz2); (try simp only [sz_drewN] at hz2); (try simp only [World.size_alloc] at hz2); (try simp only [sz_drew] at hc2 hf2); (try simp only [sz_drewN] at hc2 hf2); (try have hw2 : w.heap.size < w2.heap.size := by omega); (try have hv2 : w.heap.size + 1 < w2.heap.size := by omega); (try have hu2 : w.heap.size + 2 < w2.heap.size := by omega)))
    all_goals
      go_wp2_with fail
      go_meet
      (refine ⟨_, _, rfl, rfl, Inv.pair (And.left (by assumption)) ?_ ?_⟩)
      all_goals (repeat' (first | (with_reducible exact Own.new _ _ _) | (with_reducible exact Own.new1 _ _ _ _) | (with_reducible exact Own.new2 _ _ _ _ _) | (with_reducible exact Own.new3 _ _ _ _ _ _) | (with_reducible exact Own.new' (by simp)) | (with_reducible refine Own.put' (l := ?_) ?_ _ _ ?_) | (with_reducible refine Own.alloc ?_ _) | (with_reducible refine Own.drew ?_) | (with_reducible refine Own.call ?_ (by assumption)) | (with_reducible refine Own.far ?_ ?_ _) | rfl | omega | (simp; done) | (simp; omega)))
  case rest =>
    obtain ⟨A, B, rfl, rfl, hJ⟩ := hcut
    (have x0 : wc.cell? ⟨A, 0, none⟩ = some (.int .u64 (hiW X : Int)) := (hJ.own 0 _ rfl).cell 0; have x1 : wc.cell? ⟨A, 1, none⟩ = some (.int .u64 (loW X : Int)) := (hJ.own 0 _ rfl).cell 1; have xf := fun i => (hJ.own 0 _ rfl).frozen i; have xl : A < wc.heap.size := (hJ.own 0 _ rfl).lt)
    have y0 : wc.cell? ⟨B, 0, none⟩ = some (.int .u64 0) := (hJ.own 1 _ rfl).cell 0
    have y1 : wc.cell? ⟨B, 1, none⟩ = some (.int .u64 v) := (hJ.own 1 _ rfl).cell 1
    have yl : B < wc.heap.size := (hJ.own 1 _ rfl).lt
    (have wct := hJ.kept.1; have wck := hJ.kept; have wcg := hJ.kept.1.lt; have wcg0 := hJ.kept.1.lt0; have wcz := hJ.kept.2.size)
    clear hJ hI
    cases p
    · cases q
      all_goals
        go_wp2_with (first | (go_at_call 89; (with_reducible refine (H4.out _ (by repeat' (first | (with_reducible assumption) | (with_reducible refine Tab.alloc ?_ _) | (with_reducible refine Tab.drew ?_) | (with_reducible refine Tab.drewN ?_ _) | (with_reducible refine Tab.setCell ?_ ?_ ?_ _) | omega | (simp; done) | (simp; omega)))).mono ?_); rintro e w3 ⟨rfl, hk3⟩; obtain ⟨hc3, hf3⟩ := bcell hk3.2; have ht3 := hk3.1; have hz3 := hk3.2.size; (try simp only [World.size_alloc] at hz3); (try simp only [sz_drew] at hz3); (try simp only [sz_drewN] at hz3); (try simp only [World.size_alloc] at hz3); (try simp only [sz_drew] at hc3 hf3); (try simp only [sz_drewN] at hc3 hf3); (try have hw3 : w.heap.size < w3.heap.size := by omega); (try have hv3 : w.heap.size + 1 < w3.heap.size := by omega); (try have hu3 : w.heap.size + 2 < w3.heap.size := by omega)) | (go_at_call 89; (with_reducible refine (H5.out _ (by repeat' (first | (with_reducible assumption) | (with_reducible refine Tab.alloc ?_ _) | (with_reducible refine Tab.drew ?_) | (with_reducible refine Tab.drewN ?_ _) | (with_reducible refine Tab.setCell ?_ ?_ ?_ _) | omega | (simp; done) | (simp; omega)))).mono ?_); rintro e w4 ⟨rfl, hk4⟩; obtain ⟨hc4, hf4⟩ := bcell hk4.2; have ht4 := hk4.1; have hz4 := hk4.2.size; (try simp only [World.size_alloc] at hz4); (try simp only [sz_drew] at hz4); (try simp only [sz_drewN] at hz4); (try simp only [World.size_alloc] at hz4); (try simp only [sz_drew] at hc4 hf4); (try simp only [sz_drewN] at hc4 hf4); (try have hw4 : w.heap.size < w4.heap.size := by omega); (try have hv4 : w.heap.size + 1 < w4.heap.size := by omega); (try have hu4 : w.heap.size + 2 < w4.heap.size := by omega)))
        go_returns
        exact ⟨rfl, (by repeat' (first | (with_reducible assumption) | (with_reducible exact Kept.refl ht) | (with_reducible refine Kept.alloc ?_ _) | (with_reducible refine Kept.drew ?_) | (with_reducible refine Kept.drewN ?_ _) | (with_reducible refine Kept.setCell ?_ ?_ _ ?_ ?_) | (with_reducible refine Kept.trans ?_ (by assumption)) | omega | (simp; done) | (simp; omega)))⟩
    · go_wp2_with (first | (go_at_call 89; (with_reducible refine (H4.out _ (by repeat' (first | (with_reducible assumption) | (with_reducible refine Tab.alloc ?_ _) | (with_reducible refine Tab.drew ?_) | (with_reducible refine Tab.drewN ?_ _) | (with_reducible refine Tab.setCell ?_ ?_ ?_ _) | omega | (simp; done) | (simp; omega)))).mono ?_); rintro e w3 ⟨rfl, hk3⟩; obtain ⟨hc3, hf3⟩ := bcell hk3.2; have ht3 := hk3.1; have hz3 := hk3.2.size; (try simp only [World.size_alloc] at hz3); (try simp only [sz_drew] at hz3); (try simp only [sz_drewN] at hz3); (try simp only [World.size_alloc] at hz3); (try simp only [sz_drew] at hc3 hf3); (try simp only [sz_drewN] at hc3 hf3); (try have hw3 : w.heap.size < w3.heap.size := by omega); (try have hv3 : w.heap.size + 1 < w3.heap.size := by omega); (try have hu3 : w.heap.size + 2 < w3.heap.size := by omega)))
      go_returns
      exact ⟨rfl, (by repeat' (first | (with_reducible assumption) | (with_reducible exact Kept.refl ht) | (with_reducible refine Kept.alloc ?_ _) | (with_reducible refine Kept.drew ?_) | (with_reducible refine Kept.drewN ?_ _) | (with_reducible refine Kept.setCell ?_ ?_ _ ?_ ?_) | (with_reducible refine Kept.trans ?_ (by assumption)) | omega | (simp; done) | (simp; omega)))⟩
end Go.Proofs.YtanfhlkfmmglhaaDoor
