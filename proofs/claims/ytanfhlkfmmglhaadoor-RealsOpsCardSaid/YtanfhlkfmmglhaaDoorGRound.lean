/- The program's round: a number rounded to a size, or an error. Conditions: the tables hold what their initialisers lay; the number is at least 10 to the power of -1100; a number with a part has more digits than the size. -/
import Derived.Test.YtanfhlkfmmglhaaDoorGLaw
namespace Go.Proofs.YtanfhlkfmmglhaaDoor
open Go.ChangeShapes Go.WideShapes Go.ChangeAt Go.RowKit
attribute [local go_sem ↓] Go.wp_at_zero Go.wp_at_succ

theorem cut_all (neg : Bool) (n : Nat) (e : Int) (m : Bool) (k : Int) (w : World) (ht : Tab w) (hn : n < 340282366920938463463374607431768211456) (he : -1000000 ≤ e) (he' : e ≤ 1000000) (hk' : k ≤ 1000000) (hm : k ≤ 0 → m = false)
    (q : Nat) (T : Int) (t : Nat) (hq : n / 10 ^ k.toNat = q) (hT : e + (k.toNat : Int) = T) (htt : tl n m k.toNat = t) :
    Calls Tryd.prog 69 #[.agg #[.bool neg, .int .u64 (hiW n : Int), .int .u64 (loW n : Int), .int .i64 e, .bool m], .int .i64 k] w fun x w' => x = .returned (.tuple #[.agg #[.bool neg, .int .u64 (hiW q : Int), .int .u64 (loW q : Int), .int .i64 T, .bool false], .int .i64 (t : Int)]) ∧ Kept w w' := by
  subst hq hT htt
  rcases (by omega : k ≤ 0 ∨ 0 < k) with h | h
  · rw [hm h, show k.toNat = 0 by omega, tl_zero]
    have := cut_no neg n e false k w ht h
    simpa using this
  · obtain ⟨j, rfl⟩ := Int.eq_ofNat_of_zero_le (show 0 ≤ k by omega)
    have := cut_yes neg n e m j w ht hn he he' (by omega) (by omega)
    simpa using this
theorem plus1 (n : Nat) (w : World) (ht : Tab w) (h : n < 18446744073709551616) (q : Nat) (hq : n + 1 = q) : Calls Tryd.prog 65 #[.agg #[.int .u64 (hiW n : Int), .int .u64 (loW n : Int)], .agg #[.int .u64 0, .int .u64 1]] w fun e w' => e = .returned (.agg #[.int .u64 (hiW q : Int), .int .u64 (loW q : Int)]) ∧ Kept w w' := by
  subst hq
  have := plus_any n 1 w ht (by omega)
  have e1 : ((hiW 1 : Nat) : Int) = 0 := by decide
  have e2 : ((loW 1 : Nat) : Int) = 1 := by decide
  rw [e1, e2] at this
  exact this
theorem res_eq {a b c a' b' c' : Int} (h1 : a = a') (h2 : b = b') (h3 : c = c') : Ending.returned (.tuple #[.agg #[.int .i64 a, .int .i64 b], .int .i64 c]) = .returned (.tuple #[.agg #[.int .i64 a', .int .i64 b'], .int .i64 c']) := by rw [h1, h2, h3]
theorem Tab.prec {w : World} (h : Tab w) {s : Int} (hs : s = -1 ∨ s = 0 ∨ s = 1) : ∃ i : Nat, s - (-1) = (i : Int) ∧ i < 3 ∧ w.cell? ⟨1, i, none⟩ = some (.int .i64 (pr s : Int)) := by
  rcases hs with rfl | rfl | rfl
  · exact ⟨0, by omega, by omega, h.p0⟩
  · exact ⟨1, by omega, by omega, h.p1⟩
  · exact ⟨2, by omega, by omega, h.p2⟩

theorem great_any (neg : Bool) (s P : Int) (hP : P = (pr s : Int)) (G : Int) (hG : IntKind.u64.wrap ((tn P.toNat : Int) - 1) = G) (w : World) (ht : Tab w) :
    Calls Tryd.prog 71 #[.agg #[.bool neg, .int .u64 0, .int .u64 G, .int .i64 400, .bool false]] w fun x w' => x = .returned (.agg #[.int .i64 (sg neg (od (10 ^ pr s - 1))), .int .i64 (400 + (tz (10 ^ pr s - 1) : Int))]) ∧ Kept w w' := by
  have hp := pr_pos s
  have h1 := p10_le (show 1 ≤ pr s by omega)
  have h2 := p10_le hp.2
  have h3 : (10 : Nat) ^ 18 = 1000000000000000000 := by decide
  have h4 : (10 : Nat) ^ 1 = 10 := by decide
  have h := real_any neg (10 ^ pr s - 1) 400 false w ht (by omega) (by omega) (by omega) (by omega)
  have e1 : ((hiW (10 ^ pr s - 1) : Nat) : Int) = 0 := by unfold hiW; omega
  have e2 : ((loW (10 ^ pr s - 1) : Nat) : Int) = G := by
    rw [← hG, hP, Int.toNat_natCast, IntKind.wrap_u64]
    unfold loW tn
    omega
  rw [e1, e2] at h
  exact h

set_option maxRecDepth 100000 in
set_option maxHeartbeats 16000000 in
theorem round_first (neg : Bool) (n : Nat) (e : Int) (m : Bool) (s how : Int) (w : World) (ht : Tab w) (hs : s = -1 ∨ s = 0 ∨ s = 1) (hn0 : n ≠ 0) (hn : n < 340282366920938463463374607431768211456) (he : -1100 ≤ e) (he' : e ≤ 5000) (hm : m = true → pr s < dg n) :
    Calls Tryd.prog 36 #[.agg #[.bool neg, .int .u64 (hiW n : Int), .int .u64 (loW n : Int), .int .i64 e, .bool m], .int .i64 s, .int .i64 how] w fun x w' => x = .returned (.tuple #[.agg #[.int .i64 (rM (pr s) how neg (sc n e) m), .int .i64 (rE (pr s) how neg (sc n e) m)], .int .i64 (rX (pr s) how neg (sc n e) m)]) ∧ Kept w w' := by
  have hlt := ht.lt
  have hlt0 := ht.lt0
  obtain ⟨i, hi, hi3, hpc⟩ := ht.prec hs
  obtain ⟨hp7, hp18⟩ := pr_pos s
  have hd : decide (n = 0) = false := decide_eq_false hn0
  have hdg : dg n ≤ 39 := (dg_iff n 39).2 (by simp; omega)
  obtain ⟨P, hP⟩ : ∃ P : Int, P = (pr s : Int) := ⟨_, rfl⟩
  obtain ⟨L, hL⟩ : ∃ L : Int, max (e + (dg n : Int) - P) (-400) = L := ⟨_, rfl⟩
  have hck : cK (pr s) n e = L - e := by unfold cK; rw [← hL, hP]
  have hin := round_in (p := pr s) (how := how) (neg := neg) (m := m) hn0 he (by omega) hm
  have hout := round_out (p := pr s) (how := how) (neg := neg) (m := m) hn0 he (by omega) hm
  have hql := cQ_le (p := pr s) (n := n) (how := how) (e := e) (neg := neg) (m := m) hp18
  have hcm : L - e ≤ 0 → m = false := by
    intro h
    cases m with
    | false => rfl
    | true => have := hm rfl; omega
  have hca := fun w ht => cut_all neg n e m (L - e) w ht hn (by omega) (by omega) (by omega) hcm _ _ _ rfl rfl rfl
  rw [← hck] at hca
  unfold cQ at hin hout hql
  have hdiv : n / 10 ^ (cK (pr s) n e).toNat < 340282366920938463463374607431768211456 := Nat.lt_of_le_of_lt (Nat.div_le_self _ _) hn
  have htl := tl_le n m (cK (pr s) n e).toNat
  have hT1 : -1100 ≤ e + ((cK (pr s) n e).toNat : Int) := by omega
  have hT2 : e + ((cK (pr s) n e).toNat : Int) ≤ 6000 := by omega
  generalize n / 10 ^ (cK (pr s) n e).toNat = q0 at *
  generalize tl n m (cK (pr s) n e).toNat = t at *
  generalize e + ((cK (pr s) n e).toNat : Int) = T at *
  obtain ⟨q, hq⟩ : ∃ q, q = q0 + if grow how neg q0 t = true then 1 else 0 := ⟨_, rfl⟩
  rw [← hq] at hin hout hql
  rw [hck] at hca
  obtain ⟨G, hG⟩ : ∃ G : Int, IntKind.u64.wrap ((tn P.toNat : Int) - 1) = G := ⟨_, rfl⟩
  have HRG := Lib.hid (great_any neg s P hP G hG)
  have HG := Lib.hid hG
  clear hG
  have HCA := Lib.hid hca
  have HIN := Lib.hid hin
  have HOUT := Lib.hid hout
  have HQ := Lib.hid hq
  have hi3' : (i : Int) < 3 := by omega
  have hi0 : (0 : Int) ≤ (i : Int) := by omega
  rw [← hP] at hpc
  have hP1 : 7 ≤ P := by omega
  have hP2 : P ≤ 18 := by omega
  have hdn : (dg n : Int) ≤ 39 := by omega
  have hdn0 : (0 : Int) ≤ (dg n : Int) := by omega
  obtain ⟨dn, hdne⟩ : ∃ dn : Int, dn = (dg n : Int) := ⟨_, rfl⟩
  have hdig := fun w ht => digits_any n w ht hn
  rw [← hdne] at hdig hL hdn hdn0
  have HDG := Lib.hid hdig
  have HP := Lib.hid hP
  have HW : Hid (max (IntKind.i64.wrap (IntKind.i64.wrap (e + dn) - P)) (-400) = L) := Lib.hid (by
    rw [IntWalk.i64_in (e + dn) (by omega), IntWalk.i64_in (e + dn - P) (by omega)]; exact hL)
  clear hca hin hout hq hck hcm hm hdiv hP hdne hdig hdg hp7 hp18 hn0 hi3 hn
  go_enter Tryd.func36, Tryd.ntmps36
  go_upto_region 4 with (first | (go_at_call 62; (with_reducible refine (isZero_any n _ (by repeat' (first | (with_reducible assumption) | (with_reducible refine Tab.alloc ?_ _) | (with_reducible refine Tab.drew ?_) | (with_reducible refine Tab.drewN ?_ _) | (with_reducible refine Tab.setCell ?_ ?_ ?_ _) | omega | (simp; done) | (simp; omega)))).mono ?_); rintro e w1 ⟨rfl, hk1⟩; obtain ⟨hc1, hf1⟩ := bcell hk1.2; have ht1 := hk1.1; have hz1 := hk1.2.size; (try simp only [World.size_alloc] at hz1); (try simp only [sz_drew] at hz1); (try simp only [sz_drewN] at hz1); (try simp only [World.size_alloc] at hz1); (try simp only [sz_drew] at hc1 hf1); (try simp only [sz_drewN] at hc1 hf1); (try have hw1 : w.heap.size < w1.heap.size := by omega); (try have hv1 : w.heap.size + 1 < w1.heap.size := by omega); (try have hu1 : w.heap.size + 2 < w1.heap.size := by omega)))
  have hI := (Inv.two ht 44 [.bool neg, .int .u64 (hiW n : Int), .int .u64 (loW n : Int), .int .i64 e, .bool m] 25 [.int .i64 0, .int .i64 0]).call hk1
  (have x0 : w1.cell? ⟨w.heap.size, 0, none⟩ = some (.bool neg) := (hI.own 0 _ rfl).cell 0; have x1 : w1.cell? ⟨w.heap.size, 1, none⟩ = some (.int .u64 (hiW n : Int)) := (hI.own 0 _ rfl).cell 1; have x2 : w1.cell? ⟨w.heap.size, 2, none⟩ = some (.int .u64 (loW n : Int)) := (hI.own 0 _ rfl).cell 2; have x3 : w1.cell? ⟨w.heap.size, 3, none⟩ = some (.int .i64 e) := (hI.own 0 _ rfl).cell 3; have x4 : w1.cell? ⟨w.heap.size, 4, none⟩ = some (.bool m) := (hI.own 0 _ rfl).cell 4; have xf := fun i => (hI.own 0 _ rfl).frozen i; have xl : w.heap.size < w1.heap.size := (hI.own 0 _ rfl).lt)
  have HI := Lib.hid hI
  clear hI
  go_cut [9] (fun s9 wx => s9 = .int .i64 L ∧ Inv w [(w.heap.size, 44, [.bool neg, .int .u64 (hiW n : Int), .int .u64 (loW n : Int), .int .i64 e, .bool m]), (w.heap.size + 1, 25, [.int .i64 0, .int .i64 0])] wx)
  case first =>
    go_region_with (first | (go_at_call 68; (with_reducible refine (HDG.out _ (by repeat' (first | (with_reducible assumption) | (with_reducible refine Tab.alloc ?_ _) | (with_reducible refine Tab.drew ?_) | (with_reducible refine Tab.drewN ?_ _) | (with_reducible refine Tab.setCell ?_ ?_ ?_ _) | omega | (simp; done) | (simp; omega)))).mono ?_); rintro e w2 ⟨rfl, hk2⟩; obtain ⟨hc2, hf2⟩ := bcell hk2.2; have ht2 := hk2.1; have hz2 := hk2.2.size; (try simp only [World.size_alloc] at hz2); (try simp only [sz_drew] at hz2); (try simp only [sz_drewN] at hz2); (try simp only [World.size_alloc] at hz2); (try simp only [sz_drew] at hc2 hf2); (try simp only [sz_drewN] at hc2 hf2); (try have hw2 : w.heap.size < w2.heap.size := by omega); (try have hv2 : w.heap.size + 1 < w2.heap.size := by omega); (try have hu2 : w.heap.size + 2 < w2.heap.size := by omega)))
    all_goals
      go_wp2_with fail
      go_meet
      have hI2 := HI.out
      refine ⟨by rw [HW.out], ?_⟩
      repeat' (first | (with_reducible assumption) | (with_reducible refine Inv.drew ?_) | (with_reducible refine Inv.alloc ?_ _) | (with_reducible refine Inv.call ?_ (by assumption)) | (with_reducible refine Inv.far ?_ ?_ ?_ ?_ ?_ _) | omega | (simp; done) | (simp; omega))
  case rest =>
    obtain ⟨rfl, hI⟩ := hcut
    clear x0 x1 x2 x3 x4 xf xl
    (have x0 : wc.cell? ⟨w.heap.size, 0, none⟩ = some (.bool neg) := (hI.own 0 _ rfl).cell 0; have x1 : wc.cell? ⟨w.heap.size, 1, none⟩ = some (.int .u64 (hiW n : Int)) := (hI.own 0 _ rfl).cell 1; have x2 : wc.cell? ⟨w.heap.size, 2, none⟩ = some (.int .u64 (loW n : Int)) := (hI.own 0 _ rfl).cell 2; have x3 : wc.cell? ⟨w.heap.size, 3, none⟩ = some (.int .i64 e) := (hI.own 0 _ rfl).cell 3; have x4 : wc.cell? ⟨w.heap.size, 4, none⟩ = some (.bool m) := (hI.own 0 _ rfl).cell 4; have xf := fun i => (hI.own 0 _ rfl).frozen i; have xl : w.heap.size < wc.heap.size := (hI.own 0 _ rfl).lt)
    (have y0 : wc.cell? ⟨w.heap.size + 1, 0, none⟩ = some (.int .i64 0) := (hI.own 1 _ rfl).cell 0; have y1 : wc.cell? ⟨w.heap.size + 1, 1, none⟩ = some (.int .i64 0) := (hI.own 1 _ rfl).cell 1; have yf := fun i => (hI.own 1 _ rfl).frozen i; have yl : w.heap.size + 1 < wc.heap.size := (hI.own 1 _ rfl).lt)
    (have wct := hI.kept.1; have wck := hI.kept; have wcg := hI.kept.1.lt; have wcg0 := hI.kept.1.lt0; have wcz := hI.kept.2.size)
    have HI := Lib.hid hI
    clear hI
    go_upto_region 5 with fail
    go_cut [10, 11] (fun s10 s11 wx => ∃ C : Nat, s10 = .pointer (some ⟨C, 0, none⟩) ∧ s11 = .int .i64 (t : Int) ∧ w.heap.size + 1 < C ∧ Inv w [(w.heap.size, 44, [.bool neg, .int .u64 (hiW n : Int), .int .u64 (loW n : Int), .int .i64 e, .bool m]), (w.heap.size + 1, 25, [.int .i64 0, .int .i64 0]), (C, 44, [.bool neg, .int .u64 (hiW q0 : Int), .int .u64 (loW q0 : Int), .int .i64 T, .bool false])] wx)
    case first =>
      go_wp2_with (first | (go_at_call 69; (with_reducible refine (HCA.out _ (by repeat' (first | (with_reducible assumption) | (with_reducible refine Tab.alloc ?_ _) | (with_reducible refine Tab.drew ?_) | (with_reducible refine Tab.drewN ?_ _) | (with_reducible refine Tab.setCell ?_ ?_ ?_ _) | omega | (simp; done) | (simp; omega)))).mono ?_); rintro e w3 ⟨rfl, hk3⟩; obtain ⟨hc3, hf3⟩ := bcell hk3.2; have ht3 := hk3.1; have hz3 := hk3.2.size; (try simp only [World.size_alloc] at hz3); (try simp only [sz_drew] at hz3); (try simp only [sz_drewN] at hz3); (try simp only [World.size_alloc] at hz3); (try simp only [sz_drew] at hc3 hf3); (try simp only [sz_drewN] at hc3 hf3); (try have hw3 : w.heap.size < w3.heap.size := by omega); (try have hv3 : w.heap.size + 1 < w3.heap.size := by omega); (try have hu3 : w.heap.size + 2 < w3.heap.size := by omega)))
      go_meet
      exact ⟨_, rfl, rfl, by omega, ((HI.out.call hk3).alloc _).more (bs := [_, _]) (Own.new w3 _ [_, _, _, _, _])⟩
    case rest =>
      obtain ⟨C, rfl, rfl, hC, hI⟩ := hcut
      clear x0 x1 x2 x3 x4 xf xl y0 y1 yf yl
      obtain ⟨dq, hdq⟩ : ∃ dq : Int, dq = (dg q : Int) := ⟨_, rfl⟩
      have hdqa := fun w ht => digits_any q w ht (by omega)
      have hdq39 := (dg_iff q 39).2 (by simp; omega)
      rw [← hdq] at hdqa
      have HDQ := Lib.hid hdqa
      obtain ⟨ok, hok⟩ : ∃ ok : Bool, decide (T + dq ≤ 400 + P) = ok := ⟨_, rfl⟩
      have HOK := Lib.hid hok
      have HW8 : Hid (decide (IntKind.i64.wrap (T + dq) ≤ IntKind.i64.wrap (400 + P)) = decide (T + dq ≤ 400 + P)) := Lib.hid (by
        rw [IntWalk.i64_in (T + dq) (by omega), IntWalk.i64_in (400 + P) (by omega)])
      have HD := Lib.hid hdq
      clear hdqa hok hdq hdq39
      (have x0 : wc.cell? ⟨w.heap.size, 0, none⟩ = some (.bool neg) := (hI.own 0 _ rfl).cell 0; have x1 : wc.cell? ⟨w.heap.size, 1, none⟩ = some (.int .u64 (hiW n : Int)) := (hI.own 0 _ rfl).cell 1; have x2 : wc.cell? ⟨w.heap.size, 2, none⟩ = some (.int .u64 (loW n : Int)) := (hI.own 0 _ rfl).cell 2; have x3 : wc.cell? ⟨w.heap.size, 3, none⟩ = some (.int .i64 e) := (hI.own 0 _ rfl).cell 3; have x4 : wc.cell? ⟨w.heap.size, 4, none⟩ = some (.bool m) := (hI.own 0 _ rfl).cell 4; have xf := fun i => (hI.own 0 _ rfl).frozen i; have xl : w.heap.size < wc.heap.size := (hI.own 0 _ rfl).lt)
      (have c0 : wc.cell? ⟨C, 0, none⟩ = some (.bool neg) := (hI.own 2 _ rfl).cell 0; have c1 : wc.cell? ⟨C, 1, none⟩ = some (.int .u64 (hiW q0 : Int)) := (hI.own 2 _ rfl).cell 1; have c2 : wc.cell? ⟨C, 2, none⟩ = some (.int .u64 (loW q0 : Int)) := (hI.own 2 _ rfl).cell 2; have c3 : wc.cell? ⟨C, 3, none⟩ = some (.int .i64 T) := (hI.own 2 _ rfl).cell 3; have c4 : wc.cell? ⟨C, 4, none⟩ = some (.bool false) := (hI.own 2 _ rfl).cell 4; have cf := fun i => (hI.own 2 _ rfl).frozen i; have cl : C < wc.heap.size := (hI.own 2 _ rfl).lt)
      (have y0 : wc.cell? ⟨w.heap.size + 1, 0, none⟩ = some (.int .i64 0) := (hI.own 1 _ rfl).cell 0; have y1 : wc.cell? ⟨w.heap.size + 1, 1, none⟩ = some (.int .i64 0) := (hI.own 1 _ rfl).cell 1; have yf := fun i => (hI.own 1 _ rfl).frozen i; have yl : w.heap.size + 1 < wc.heap.size := (hI.own 1 _ rfl).lt)
      (have wct := hI.kept.1; have wck := hI.kept; have wcg := hI.kept.1.lt; have wcg0 := hI.kept.1.lt0; have wcz := hI.kept.2.size)
      have HI := Lib.hid hI
      clear hI
      have HPL := Lib.hid (fun (hg : grow how neg q0 t = true) w ht => plus1 q0 w ht (by have := HQ.out; have := hql; omega) q (by have := HQ.out; rw [hg] at this; simpa using this.symm))
      go_upto_if 42 with (first | (go_at_call 70; (with_reducible refine (grows_any neg q0 T false how t _ (by repeat' (first | (with_reducible assumption) | (with_reducible refine Tab.alloc ?_ _) | (with_reducible refine Tab.drew ?_) | (with_reducible refine Tab.drewN ?_ _) | (with_reducible refine Tab.setCell ?_ ?_ ?_ _) | omega | (simp; done) | (simp; omega))) htl).mono ?_); rintro e w4 ⟨rfl, hk4⟩; obtain ⟨hc4, hf4⟩ := bcell hk4.2; have ht4 := hk4.1; have hz4 := hk4.2.size; (try simp only [World.size_alloc] at hz4); (try simp only [sz_drew] at hz4); (try simp only [sz_drewN] at hz4); (try simp only [World.size_alloc] at hz4); (try simp only [sz_drew] at hc4 hf4); (try simp only [sz_drewN] at hc4 hf4); (try have hw4 : w.heap.size < w4.heap.size := by omega); (try have hv4 : w.heap.size + 1 < w4.heap.size := by omega); (try have hu4 : w.heap.size + 2 < w4.heap.size := by omega)))
      have hJ := HI.out.call hk4
      clear HI x0 x1 x2 x3 x4 xf xl c0 c1 c2 c3 c4 cf cl hc4 hf4 y0 y1 yf yl
      (have c0 : w4.cell? ⟨C, 0, none⟩ = some (.bool neg) := (hJ.own 2 _ rfl).cell 0; have c1 : w4.cell? ⟨C, 1, none⟩ = some (.int .u64 (hiW q0 : Int)) := (hJ.own 2 _ rfl).cell 1; have c2 : w4.cell? ⟨C, 2, none⟩ = some (.int .u64 (loW q0 : Int)) := (hJ.own 2 _ rfl).cell 2; have c3 : w4.cell? ⟨C, 3, none⟩ = some (.int .i64 T) := (hJ.own 2 _ rfl).cell 3; have c4 : w4.cell? ⟨C, 4, none⟩ = some (.bool false) := (hJ.own 2 _ rfl).cell 4; have cf := fun i => (hJ.own 2 _ rfl).frozen i; have cl : C < w4.heap.size := (hJ.own 2 _ rfl).lt)
      (have w4t := hJ.kept.1; have w4k := hJ.kept; have w4g := hJ.kept.1.lt; have w4g0 := hJ.kept.1.lt0; have w4z := hJ.kept.2.size)
      have HI := Lib.hid hJ
      clear hJ
      go_cut [] (fun wx => Inv w [(w.heap.size, 44, [.bool neg, .int .u64 (hiW n : Int), .int .u64 (loW n : Int), .int .i64 e, .bool m]), (w.heap.size + 1, 25, [.int .i64 0, .int .i64 0]), (C, 44, [.bool neg, .int .u64 (hiW q : Int), .int .u64 (loW q : Int), .int .i64 T, .bool false])] wx)
      case first =>
        cases hg : grow how neg q0 t
        · have hqq : q = q0 := by have := HQ.out; rw [hg] at this; simpa using this
          go_wp2_with fail
          go_meet
          rw [hqq]
          exact HI.out
        · have HPM := Lib.hid (HPL.out hg)
          go_wp2_with (first | (go_at_call 65; (with_reducible refine (HPM.out _ (by repeat' (first | (with_reducible assumption) | (with_reducible refine Tab.alloc ?_ _) | (with_reducible refine Tab.drew ?_) | (with_reducible refine Tab.drewN ?_ _) | (with_reducible refine Tab.setCell ?_ ?_ ?_ _) | omega | (simp; done) | (simp; omega)))).mono ?_); rintro e w7 ⟨rfl, hk7⟩; obtain ⟨hc7, hf7⟩ := bcell hk7.2; have ht7 := hk7.1; have hz7 := hk7.2.size; (try simp only [World.size_alloc] at hz7); (try simp only [sz_drew] at hz7); (try simp only [sz_drewN] at hz7); (try simp only [World.size_alloc] at hz7); (try simp only [sz_drew] at hc7 hf7); (try simp only [sz_drewN] at hc7 hf7); (try have hw7 : w.heap.size < w7.heap.size := by omega); (try have hv7 : w.heap.size + 1 < w7.heap.size := by omega); (try have hu7 : w.heap.size + 2 < w7.heap.size := by omega)))
          go_meet
          exact ((HI.out.call hk7).put 2 rfl 1 _ (by simp; omega) (by omega) hlt hlt0).put 2 rfl 2 _ (by simp; omega) (by omega) hlt hlt0
      case rest =>
        clear HI c0 c1 c2 c3 c4 cf cl
        (have x0 : wc.cell? ⟨w.heap.size, 0, none⟩ = some (.bool neg) := (hcut.own 0 _ rfl).cell 0; have x1 : wc.cell? ⟨w.heap.size, 1, none⟩ = some (.int .u64 (hiW n : Int)) := (hcut.own 0 _ rfl).cell 1; have x2 : wc.cell? ⟨w.heap.size, 2, none⟩ = some (.int .u64 (loW n : Int)) := (hcut.own 0 _ rfl).cell 2; have x3 : wc.cell? ⟨w.heap.size, 3, none⟩ = some (.int .i64 e) := (hcut.own 0 _ rfl).cell 3; have x4 : wc.cell? ⟨w.heap.size, 4, none⟩ = some (.bool m) := (hcut.own 0 _ rfl).cell 4; have xf := fun i => (hcut.own 0 _ rfl).frozen i; have xl : w.heap.size < wc.heap.size := (hcut.own 0 _ rfl).lt)
        (have c0 : wc.cell? ⟨C, 0, none⟩ = some (.bool neg) := (hcut.own 2 _ rfl).cell 0; have c1 : wc.cell? ⟨C, 1, none⟩ = some (.int .u64 (hiW q : Int)) := (hcut.own 2 _ rfl).cell 1; have c2 : wc.cell? ⟨C, 2, none⟩ = some (.int .u64 (loW q : Int)) := (hcut.own 2 _ rfl).cell 2; have c3 : wc.cell? ⟨C, 3, none⟩ = some (.int .i64 T) := (hcut.own 2 _ rfl).cell 3; have c4 : wc.cell? ⟨C, 4, none⟩ = some (.bool false) := (hcut.own 2 _ rfl).cell 4; have cf := fun i => (hcut.own 2 _ rfl).frozen i; have cl : C < wc.heap.size := (hcut.own 2 _ rfl).lt)
        (have wct := hcut.kept.1; have wck := hcut.kept; have wcg := hcut.kept.1.lt; have wcg0 := hcut.kept.1.lt0; have wcz := hcut.kept.2.size)
        have HI := Lib.hid hcut
        clear hcut
        go_upto_region 8 with fail
        go_cut [56] (fun s56 wx => s56 = .bool ok ∧ Inv w [(w.heap.size, 44, [.bool neg, .int .u64 (hiW n : Int), .int .u64 (loW n : Int), .int .i64 e, .bool m]), (w.heap.size + 1, 25, [.int .i64 0, .int .i64 0]), (C, 44, [.bool neg, .int .u64 (hiW q : Int), .int .u64 (loW q : Int), .int .i64 T, .bool false])] wx)
        case first =>
          go_region_with (first | (go_at_call 68; (with_reducible refine (HDQ.out _ (by repeat' (first | (with_reducible assumption) | (with_reducible refine Tab.alloc ?_ _) | (with_reducible refine Tab.drew ?_) | (with_reducible refine Tab.drewN ?_ _) | (with_reducible refine Tab.setCell ?_ ?_ ?_ _) | omega | (simp; done) | (simp; omega)))).mono ?_); rintro e w5 ⟨rfl, hk5⟩; obtain ⟨hc5, hf5⟩ := bcell hk5.2; have ht5 := hk5.1; have hz5 := hk5.2.size; (try simp only [World.size_alloc] at hz5); (try simp only [sz_drew] at hz5); (try simp only [sz_drewN] at hz5); (try simp only [World.size_alloc] at hz5); (try simp only [sz_drew] at hc5 hf5); (try simp only [sz_drewN] at hc5 hf5); (try have hw5 : w.heap.size < w5.heap.size := by omega); (try have hv5 : w.heap.size + 1 < w5.heap.size := by omega); (try have hu5 : w.heap.size + 2 < w5.heap.size := by omega)))
          all_goals
            go_wp2_with fail
            go_meet
            have hI2 := HI.out
            refine ⟨by rw [← HOK.out, HW8.out], ?_⟩
            repeat' (first | (with_reducible assumption) | (with_reducible refine Inv.drew ?_) | (with_reducible refine Inv.alloc ?_ _) | (with_reducible refine Inv.call ?_ (by assumption)) | (with_reducible refine Inv.far ?_ ?_ ?_ ?_ ?_ _) | omega | (simp; done) | (simp; omega))
        case rest =>
          obtain ⟨rfl, hI⟩ := hcut
          clear HI x0 x1 x2 x3 x4 xf xl c0 c1 c2 c3 c4 cf cl
          (have x0 : wc.cell? ⟨w.heap.size, 0, none⟩ = some (.bool neg) := (hI.own 0 _ rfl).cell 0; have x1 : wc.cell? ⟨w.heap.size, 1, none⟩ = some (.int .u64 (hiW n : Int)) := (hI.own 0 _ rfl).cell 1; have x2 : wc.cell? ⟨w.heap.size, 2, none⟩ = some (.int .u64 (loW n : Int)) := (hI.own 0 _ rfl).cell 2; have x3 : wc.cell? ⟨w.heap.size, 3, none⟩ = some (.int .i64 e) := (hI.own 0 _ rfl).cell 3; have x4 : wc.cell? ⟨w.heap.size, 4, none⟩ = some (.bool m) := (hI.own 0 _ rfl).cell 4; have xf := fun i => (hI.own 0 _ rfl).frozen i; have xl : w.heap.size < wc.heap.size := (hI.own 0 _ rfl).lt)
          (have y0 : wc.cell? ⟨w.heap.size + 1, 0, none⟩ = some (.int .i64 0) := (hI.own 1 _ rfl).cell 0; have y1 : wc.cell? ⟨w.heap.size + 1, 1, none⟩ = some (.int .i64 0) := (hI.own 1 _ rfl).cell 1; have yf := fun i => (hI.own 1 _ rfl).frozen i; have yl : w.heap.size + 1 < wc.heap.size := (hI.own 1 _ rfl).lt)
          (have c0 : wc.cell? ⟨C, 0, none⟩ = some (.bool neg) := (hI.own 2 _ rfl).cell 0; have c1 : wc.cell? ⟨C, 1, none⟩ = some (.int .u64 (hiW q : Int)) := (hI.own 2 _ rfl).cell 1; have c2 : wc.cell? ⟨C, 2, none⟩ = some (.int .u64 (loW q : Int)) := (hI.own 2 _ rfl).cell 2; have c3 : wc.cell? ⟨C, 3, none⟩ = some (.int .i64 T) := (hI.own 2 _ rfl).cell 3; have c4 : wc.cell? ⟨C, 4, none⟩ = some (.bool false) := (hI.own 2 _ rfl).cell 4; have cf := fun i => (hI.own 2 _ rfl).frozen i; have cl : C < wc.heap.size := (hI.own 2 _ rfl).lt)
          (have wct := hI.kept.1; have wck := hI.kept; have wcg := hI.kept.1.lt; have wcg0 := hI.kept.1.lt0; have wcz := hI.kept.2.size)
          have HI := Lib.hid hI
          have HR := Lib.hid (hI.own 1 _ rfl)
          clear hI
          cases ok
          · have hno : ¬ T + (dg q : Int) ≤ 400 + (pr s : Int) := by
              have h1 := of_decide_eq_false HOK.out
              rw [HD.out, HP.out] at h1
              exact h1
            obtain ⟨o1, o2⟩ := HOUT.out (by omega)
            have O1 := Lib.hid o1
            have O2 := Lib.hid o2
            clear o1 o2 hno
            cases hi : inw how neg
            · have O3 := Lib.hid (O1.out hi)
              by_cases h0 : how = 0
              · subst h0
                go_wp2_with (first | (go_at_call 72; (with_reducible refine (inwards_any 0 neg _).mono ?_); rintro e w' ⟨rfl, rfl⟩))
                have hF := (HR.out.put 0 (.int .i64 0)).put 1 (.int .i64 0)
                refine bodyPost_ret (ret_own_tmp rfl hF rfl Tryd.underlying25 rfl (by kernel_rfl)) rfl ?_
                exact ⟨res_eq O3.out.1.symm O3.out.2.1.symm O3.out.2.2.symm, (by repeat' (first | (with_reducible assumption) | (with_reducible exact Kept.refl ht) | (with_reducible refine Kept.alloc ?_ _) | (with_reducible refine Kept.drew ?_) | (with_reducible refine Kept.drewN ?_ _) | (with_reducible refine Kept.setCell ?_ ?_ _ ?_ ?_) | (with_reducible refine Kept.trans ?_ (by assumption)) | omega | (simp; done) | (simp; omega)))⟩
              · have h0' : (how == 0) = false := by rw [beq_eq_false_iff_ne]; exact h0
                go_wp2_with (first | (go_at_call 72; (with_reducible refine (inwards_any how neg _).mono ?_); rintro e w' ⟨rfl, rfl⟩))
                have hF := (HR.out.put 0 (.int .i64 0)).put 1 (.int .i64 0)
                refine bodyPost_ret (ret_own_tmp rfl hF rfl Tryd.underlying25 rfl (by kernel_rfl)) rfl ?_
                exact ⟨res_eq O3.out.1.symm O3.out.2.1.symm O3.out.2.2.symm, (by repeat' (first | (with_reducible assumption) | (with_reducible exact Kept.refl ht) | (with_reducible refine Kept.alloc ?_ _) | (with_reducible refine Kept.drew ?_) | (with_reducible refine Kept.drewN ?_ _) | (with_reducible refine Kept.setCell ?_ ?_ _ ?_ ?_) | (with_reducible refine Kept.trans ?_ (by assumption)) | omega | (simp; done) | (simp; omega)))⟩
            · have O3 := Lib.hid (O2.out hi)
              have h0 : ¬ how = 0 := by
                rintro rfl
                unfold inw at hi
                simp at hi
              have h0' : (how == 0) = false := by rw [beq_eq_false_iff_ne]; exact h0
              go_upto_region 12 with (first | (go_at_call 72; (with_reducible refine (inwards_any how neg _).mono ?_); rintro e w' ⟨rfl, rfl⟩))
              go_cut [12] (fun s12 wx => ∃ E : Nat, s12 = .pointer (some ⟨E, 0, none⟩) ∧ w.heap.size + 1 < E ∧ Inv w [(w.heap.size, 44, [.bool neg, .int .u64 (hiW n : Int), .int .u64 (loW n : Int), .int .i64 e, .bool m]), (w.heap.size + 1, 25, [.int .i64 0, .int .i64 0]), (E, 44, [.bool neg, .int .u64 0, .int .u64 G, .int .i64 400, .bool false])] wx)
              case first =>
                have hI2 := HI.out.init (bs := [_, _])
                have tc := wct.tens P.toNat (by omega)
                have hPb : P < 20 := by omega
                have hP0 : 0 ≤ P := by omega
                have nx := World.new_ne wc ⟨w.heap.size, 0, none⟩ x0
                have nt := World.new_ne wc ⟨0, P.toNat, none⟩ tc
                go_region_held3 (fun w' => w'.cell? ⟨w.heap.size, 0, none⟩ = some (.bool neg) ∧ w'.cell? ⟨0, P.toNat, none⟩ = some (.int .u64 (tn P.toNat : Int))) (go_keep) (fail)
                have hO : ∀ W : World, Own (W.alloc (.cells #[.bool neg, .int .u64 0, .int .u64 (IntKind.u64.wrap ((tn P.toNat : Int) - 1)), .int .i64 400, .bool false] 44)) W.heap.size 44 [.bool neg, .int .u64 0, .int .u64 G, .int .i64 400, .bool false] := fun W => by
                  rw [HG.out]
                  exact Own.new _ _ [_, _, _, _, _]
                go_wp2_with fail
                go_meet
                refine ⟨_, rfl, ?_, Inv.more (bs := [_, _]) ?_ ?_⟩
                · show w.heap.size + 1 < wc.heap.size
                  omega
                · repeat' (first | (with_reducible assumption) | (with_reducible refine Inv.drew ?_) | (with_reducible refine Inv.alloc ?_ _) | (with_reducible refine Inv.call ?_ (by assumption)) | (with_reducible refine Inv.far ?_ ?_ ?_ ?_ ?_ _) | omega | (simp; done) | (simp; omega))
                · first
                    | exact hO _
                    | exact (hO _).drew
                    | exact (hO _).drew.drew
              case rest =>
                obtain ⟨E, rfl, hE, hI⟩ := hcut
                clear HI x0 x1 x2 x3 x4 xf xl c0 c1 c2 c3 c4 cf cl y0 y1 yf yl
                have e0 : wc.cell? ⟨E, 0, none⟩ = some (.bool neg) := (hI.own 2 _ rfl).cell 0
                have e1 : wc.cell? ⟨E, 1, none⟩ = some (.int .u64 0) := (hI.own 2 _ rfl).cell 1
                have e2 : wc.cell? ⟨E, 2, none⟩ = some (.int .u64 G) := (hI.own 2 _ rfl).cell 2
                have e3 : wc.cell? ⟨E, 3, none⟩ = some (.int .i64 400) := (hI.own 2 _ rfl).cell 3
                have e4 : wc.cell? ⟨E, 4, none⟩ = some (.bool false) := (hI.own 2 _ rfl).cell 4
                (have y0 : wc.cell? ⟨w.heap.size + 1, 0, none⟩ = some (.int .i64 0) := (hI.own 1 _ rfl).cell 0; have y1 : wc.cell? ⟨w.heap.size + 1, 1, none⟩ = some (.int .i64 0) := (hI.own 1 _ rfl).cell 1; have yf := fun i => (hI.own 1 _ rfl).frozen i; have yl : w.heap.size + 1 < wc.heap.size := (hI.own 1 _ rfl).lt)
                (have wct := hI.kept.1; have wck := hI.kept; have wcg := hI.kept.1.lt; have wcg0 := hI.kept.1.lt0; have wcz := hI.kept.2.size)
                have HR2 := Lib.hid (hI.own 1 _ rfl)
                clear hI
                go_wp2_with (first | (go_at_call 71; (with_reducible refine (HRG.out _ (by repeat' (first | (with_reducible assumption) | (with_reducible refine Tab.alloc ?_ _) | (with_reducible refine Tab.drew ?_) | (with_reducible refine Tab.drewN ?_ _) | (with_reducible refine Tab.setCell ?_ ?_ ?_ _) | omega | (simp; done) | (simp; omega)))).mono ?_); rintro e w6 ⟨rfl, hk6⟩; obtain ⟨hc6, hf6⟩ := bcell hk6.2; have ht6 := hk6.1; have hz6 := hk6.2.size; (try simp only [World.size_alloc] at hz6); (try simp only [sz_drew] at hz6); (try simp only [sz_drewN] at hz6); (try simp only [World.size_alloc] at hz6); (try simp only [sz_drew] at hc6 hf6); (try simp only [sz_drewN] at hc6 hf6); (try have hw6 : w.heap.size < w6.heap.size := by omega); (try have hv6 : w.heap.size + 1 < w6.heap.size := by omega); (try have hu6 : w.heap.size + 2 < w6.heap.size := by omega)))
                have hF := ((HR2.out.call hk6).put 0 (.int .i64 (sg neg (od (10 ^ pr s - 1))))).put 1 (.int .i64 (400 + (tz (10 ^ pr s - 1) : Int)))
                refine bodyPost_ret (ret_own_tmp rfl hF rfl Tryd.underlying25 rfl (by kernel_rfl)) rfl ?_
                exact ⟨res_eq O3.out.1.symm O3.out.2.1.symm O3.out.2.2.symm, (by repeat' (first | (with_reducible assumption) | (with_reducible exact Kept.refl ht) | (with_reducible refine Kept.alloc ?_ _) | (with_reducible refine Kept.drew ?_) | (with_reducible refine Kept.drewN ?_ _) | (with_reducible refine Kept.setCell ?_ ?_ _ ?_ ?_) | (with_reducible refine Kept.trans ?_ (by assumption)) | omega | (simp; done) | (simp; omega)))⟩
          · have hyes : T + (dg q : Int) ≤ 400 + (pr s : Int) := by
              have h1 := of_decide_eq_true HOK.out
              rw [HD.out, HP.out] at h1
              exact h1
            obtain ⟨o1, o2, o3⟩ := HIN.out hyes
            have O1 := Lib.hid o1
            have O2 := Lib.hid o2
            have O3 := Lib.hid o3
            clear o1 o2 o3 hyes
            by_cases hz : q = 0
            · have O4 := Lib.hid (O2.out hz)
              have hrz := fun w ht => real_zero neg T false w ht
              rw [← hz] at hrz
              have HRZ := Lib.hid hrz
              clear hrz hz
              go_wp2_with (first | (go_at_call 71; (with_reducible refine (HRZ.out _ (by repeat' (first | (with_reducible assumption) | (with_reducible refine Tab.alloc ?_ _) | (with_reducible refine Tab.drew ?_) | (with_reducible refine Tab.drewN ?_ _) | (with_reducible refine Tab.setCell ?_ ?_ ?_ _) | omega | (simp; done) | (simp; omega)))).mono ?_); rintro e w6 ⟨rfl, hk6⟩; obtain ⟨hc6, hf6⟩ := bcell hk6.2; have ht6 := hk6.1; have hz6 := hk6.2.size; (try simp only [World.size_alloc] at hz6); (try simp only [sz_drew] at hz6); (try simp only [sz_drewN] at hz6); (try simp only [World.size_alloc] at hz6); (try simp only [sz_drew] at hc6 hf6); (try simp only [sz_drewN] at hc6 hf6); (try have hw6 : w.heap.size < w6.heap.size := by omega); (try have hv6 : w.heap.size + 1 < w6.heap.size := by omega); (try have hu6 : w.heap.size + 2 < w6.heap.size := by omega)))
              have hF := ((HR.out.call hk6).put 0 (.int .i64 0)).put 1 (.int .i64 0)
              refine bodyPost_ret (ret_own_tmp rfl hF rfl Tryd.underlying25 rfl (by kernel_rfl)) rfl ?_
              exact ⟨res_eq O4.out.1.symm O4.out.2.symm O1.out.symm, (by repeat' (first | (with_reducible assumption) | (with_reducible exact Kept.refl ht) | (with_reducible refine Kept.alloc ?_ _) | (with_reducible refine Kept.drew ?_) | (with_reducible refine Kept.drewN ?_ _) | (with_reducible refine Kept.setCell ?_ ?_ _ ?_ ?_) | (with_reducible refine Kept.trans ?_ (by assumption)) | omega | (simp; done) | (simp; omega)))⟩
            · have O4 := Lib.hid (O3.out hz)
              have HRZ := Lib.hid (fun w ht => real_any neg q T false w ht hz (by omega) (by omega) (by omega))
              clear hz
              go_wp2_with (first | (go_at_call 71; (with_reducible refine (HRZ.out _ (by repeat' (first | (with_reducible assumption) | (with_reducible refine Tab.alloc ?_ _) | (with_reducible refine Tab.drew ?_) | (with_reducible refine Tab.drewN ?_ _) | (with_reducible refine Tab.setCell ?_ ?_ ?_ _) | omega | (simp; done) | (simp; omega)))).mono ?_); rintro e w6 ⟨rfl, hk6⟩; obtain ⟨hc6, hf6⟩ := bcell hk6.2; have ht6 := hk6.1; have hz6 := hk6.2.size; (try simp only [World.size_alloc] at hz6); (try simp only [sz_drew] at hz6); (try simp only [sz_drewN] at hz6); (try simp only [World.size_alloc] at hz6); (try simp only [sz_drew] at hc6 hf6); (try simp only [sz_drewN] at hc6 hf6); (try have hw6 : w.heap.size < w6.heap.size := by omega); (try have hv6 : w.heap.size + 1 < w6.heap.size := by omega); (try have hu6 : w.heap.size + 2 < w6.heap.size := by omega)))
              have hF := ((HR.out.call hk6).put 0 (.int .i64 (sg neg (od q)))).put 1 (.int .i64 (T + (tz q : Int)))
              refine bodyPost_ret (ret_own_tmp rfl hF rfl Tryd.underlying25 rfl (by kernel_rfl)) rfl ?_
              exact ⟨res_eq O4.out.1.symm O4.out.2.symm O1.out.symm, (by repeat' (first | (with_reducible assumption) | (with_reducible exact Kept.refl ht) | (with_reducible refine Kept.alloc ?_ _) | (with_reducible refine Kept.drew ?_) | (with_reducible refine Kept.drewN ?_ _) | (with_reducible refine Kept.setCell ?_ ?_ _ ?_ ?_) | (with_reducible refine Kept.trans ?_ (by assumption)) | omega | (simp; done) | (simp; omega)))⟩
end Go.Proofs.YtanfhlkfmmglhaaDoor
