/- Quotients and roots with more digits than the program's are rounded alike: plain mathematics. No condition. -/
import Derived.Test.YtanfhlkfmmglhaaDoorGBrk
import Derived.Test.YtanfhlkfmmglhaaDoorGRt
import Derived.Test.YtanfhlkfmmglhaaDoorGRk
import Derived.Deep.RegionHeld3
import Derived.IntWalk
namespace Go.Proofs.YtanfhlkfmmglhaaDoor

theorem rRes_rv {p : Nat} {how : Int} {neg : Bool} {V W : Nat} {m k : Bool} (h : rv p how neg V m = rv p how neg W k) : rRes p how neg V m = rRes p how neg W k := by
  unfold rRes rM rE rX oV oF ovf
  rw [h]
theorem more_same {p : Nat} {how : Int} {neg : Bool} {q q' j : Nat} {T T' : Int} {m m' : Bool} (hT : T = T' + (j : Int)) (hT' : -1100 ≤ T') (hq : q' / 10 ^ j = q) (hp : p < dg q) (hm : m = (m' || decide (q' % 10 ^ j ≠ 0))) :
    rRes p how neg (sc q' T') m' = rRes p how neg (sc q T) m := by
  apply rRes_rv
  obtain ⟨a, ha⟩ : ∃ a : Nat, T' + 1100 = (a : Int) := ⟨(T' + 1100).toNat, by omega⟩
  have e1 : sc q' T' = q' * 10 ^ a := by unfold sc; rw [ha]; rfl
  have e2 : sc q T = q * 10 ^ (a + j) := by
    unfold sc
    have : (T + 1100).toNat = a + j := by omega
    rw [this]
  have hd : q' * 10 ^ a / 10 ^ (a + j) = q := by rw [scale_div, hq]
  rw [e1, e2, rv_norm (p := p) (j := a + j) (how := how) (neg := neg) (m := m') (by rw [hd]; exact hp), hd]
  congr 1
  rw [hm, scale_mod]
  congr 1
  have hp := p10 a
  by_cases h : q' % 10 ^ j = 0
  · rw [h]; simp
  · have := Nat.mul_pos (Nat.pos_of_ne_zero h) hp
    rw [decide_eq_true (by omega : q' % 10 ^ j * 10 ^ a ≠ 0), decide_eq_true h]
theorem div_more (N k j : Nat) (hk : k ≠ 0) : decide (N % k ≠ 0) = (decide (N * 10 ^ j % k ≠ 0) || decide (N * 10 ^ j / k % 10 ^ j ≠ 0)) := by
  have hp := p10 j
  have hk0 : 0 < k := Nat.pos_of_ne_zero hk
  rw [Bool.eq_iff_iff]
  simp only [Bool.or_eq_true, decide_eq_true_eq]
  constructor
  · intro h
    by_cases h1 : N * 10 ^ j % k = 0
    · right
      intro h2
      apply h
      have a := Nat.div_add_mod (N * 10 ^ j) k
      have b := Nat.div_add_mod (N * 10 ^ j / k) (10 ^ j)
      rw [h1] at a
      rw [h2, Nat.add_zero] at b
      rw [Nat.add_zero, ← b] at a
      have c : 10 ^ j * (k * (N * 10 ^ j / k / 10 ^ j)) = 10 ^ j * N := by rw [Nat.mul_left_comm, a, Nat.mul_comm]
      have d := Nat.eq_of_mul_eq_mul_left hp c
      rw [← d]
      exact Nat.mul_mod_right _ _
    · exact Or.inl h1
  · intro h h0
    have a := Nat.div_add_mod N k
    rw [h0, Nat.add_zero] at a
    have e : N * 10 ^ j = k * (N / k * 10 ^ j) := by rw [← Nat.mul_assoc, a]
    rw [e, Nat.mul_mod_right, Nat.mul_div_cancel_left _ hk0, Nat.mul_mod_left] at h
    omega
/-- The quotient with forty digits more is rounded as the program's. -/
theorem div_same {p n k : Nat} {how e f : Int} {neg : Bool} (hp : p ≤ 18) (hn : n ≠ 0) (hd : dg n ≤ 18) (hk : k ≠ 0) (hk' : k < 10 ^ 18) (he : -900 ≤ e - f) :
    rRes p how neg (sc (n * 10 ^ 40 / k) (e - f - 40)) (decide (n * 10 ^ 40 % k ≠ 0)) = rRes p how neg (sc (qN n k) (qT n e f)) (qM n k) := by
  obtain ⟨_, hq⟩ := q_facts hn hd hk hk'
  have ej : n * 10 ^ 40 = n * 10 ^ (37 - dg n) * 10 ^ (3 + dg n) := by
    rw [Nat.mul_assoc, ← Nat.pow_add]
    congr 2
    omega
  refine more_same (j := 3 + dg n) (by unfold qT; omega) (by omega) ?_ (by omega) ?_
  · rw [ej]
    unfold qN
    generalize n * 10 ^ (37 - dg n) = N
    rw [Nat.div_div_eq_div_mul, Nat.mul_div_mul_right _ _ (p10 _)]
  · rw [ej]
    unfold qM
    generalize n * 10 ^ (37 - dg n) = N
    exact div_more N k _ hk
theorem div_dg {n k : Nat} (hn : n ≠ 0) (hd : dg n ≤ 18) (hk : k ≠ 0) (hk' : k < 10 ^ 18) : 18 < dg (n * 10 ^ 40 / k) := by
  obtain ⟨_, hq⟩ := q_facts hn hd hk hk'
  have ej : n * 10 ^ 40 = n * 10 ^ (37 - dg n) * 10 ^ (3 + dg n) := by
    rw [Nat.mul_assoc, ← Nat.pow_add]
    congr 2
    omega
  have h : n * 10 ^ 40 / k / 10 ^ (3 + dg n) = qN n k := by
    rw [ej]
    unfold qN
    rw [Nat.div_div_eq_div_mul, Nat.mul_div_mul_right _ _ (p10 _)]
  have h2 := dg_div (n * 10 ^ 40 / k) (3 + dg n)
  rw [h] at h2
  omega
theorem root_dg {n k : Nat} {e : Int} (hn : n ≠ 0) (hd : dg n ≤ 18) (hk : k = 60 ∨ k = 61) (hek : (e - (k : Int)) % 2 = 0) : 18 < dg (isq (n * 10 ^ k)) := by
  obtain ⟨t1, t2, t3, t4⟩ := rt_facts e hn hd
  obtain ⟨_, i2⟩ := isq_facts t3 t4
  obtain ⟨j, hj⟩ : ∃ j : Nat, k = rtD n e + (j + j) := ⟨(k - rtD n e) / 2, by omega⟩
  have ej : n * 10 ^ k = rtN n e * (10 ^ j * 10 ^ j) := by
    unfold rtN
    rw [hj, ← Nat.pow_add, Nat.mul_assoc, ← Nat.pow_add]
  have h : isq (n * 10 ^ k) / 10 ^ j = isq (rtN n e) := by rw [ej, ← isq_div _ _ (p10 j), Nat.mul_div_cancel _ (Nat.mul_pos (p10 j) (p10 j))]
  have h2 := dg_div (isq (n * 10 ^ k)) j
  rw [h] at h2
  omega
theorem root_more (N j : Nat) : decide (isq N * isq N ≠ N) = (decide (isq (N * (10 ^ j * 10 ^ j)) * isq (N * (10 ^ j * 10 ^ j)) ≠ N * (10 ^ j * 10 ^ j)) || decide (isq (N * (10 ^ j * 10 ^ j)) % 10 ^ j ≠ 0)) := by
  have hp := p10 j
  rw [Bool.eq_iff_iff]
  simp only [Bool.or_eq_true, decide_eq_true_eq]
  constructor
  · intro h
    by_cases h1 : isq (N * (10 ^ j * 10 ^ j)) * isq (N * (10 ^ j * 10 ^ j)) = N * (10 ^ j * 10 ^ j)
    · right
      intro h2
      apply h
      obtain ⟨s, hs⟩ := Nat.dvd_of_mod_eq_zero h2
      rw [hs, Nat.mul_mul_mul_comm, Nat.mul_comm] at h1
      have h3 := Nat.eq_of_mul_eq_mul_right (Nat.mul_pos hp hp) h1
      rw [← h3, isq_sq]
    · exact Or.inl h1
  · intro h h0
    have e : N * (10 ^ j * 10 ^ j) = isq N * 10 ^ j * (isq N * 10 ^ j) := by rw [Nat.mul_mul_mul_comm, h0]
    rw [e, isq_sq, Nat.mul_mod_left] at h
    omega
/-- The root with sixty digits more is rounded as the program's. -/
theorem root_same {p n k : Nat} {how e : Int} (hp : p ≤ 18) (hn : n ≠ 0) (hd : dg n ≤ 18) (hk : k = 60 ∨ k = 61) (hek : (e - (k : Int)) % 2 = 0) (he : -900 ≤ e) :
    rRes p how false (sc (isq (n * 10 ^ k)) ((e - (k : Int)) / 2)) (decide (isq (n * 10 ^ k) * isq (n * 10 ^ k) ≠ n * 10 ^ k)) = rRes p how false (sc (isq (rtN n e)) (rtF n e)) (sMo n e) := by
  obtain ⟨t1, t2, t3, t4⟩ := rt_facts e hn hd
  obtain ⟨_, i2⟩ := isq_facts t3 t4
  obtain ⟨j, hj⟩ : ∃ j : Nat, k = rtD n e + (j + j) := ⟨(k - rtD n e) / 2, by omega⟩
  have ej : n * 10 ^ k = rtN n e * (10 ^ j * 10 ^ j) := by
    unfold rtN
    rw [hj, ← Nat.pow_add, Nat.mul_assoc, ← Nat.pow_add]
  rw [ej]
  unfold sMo
  generalize rtN n e = N at *
  refine more_same (j := j) (by omega) (by omega) ?_ (by omega) ?_
  · rw [← isq_div _ _ (p10 j), Nat.mul_div_cancel _ (Nat.mul_pos (p10 j) (p10 j))]
  · exact root_more N j
theorem zero_rRes {p : Nat} {how e : Int} {neg : Bool} : rRes p how neg (sc 0 e) false = ⟨0, 0, 0⟩ := by
  obtain ⟨a, b, c⟩ := round_zero (p := p) (how := how) (e := e) (neg := neg)
  unfold rRes
  rw [a, b, c]
end Go.Proofs.YtanfhlkfmmglhaaDoor
/- The reference's Mul and Div. Condition: the tables hold what their initialisers lay. -/
namespace Go.Proofs.YtanfhlkfmmglhaaDoor
open Go.ChangeShapes Go.WideShapes Go.ChangeAt Go.RowKit
attribute [local go_sem ↓] Go.wp_at_zero Go.wp_at_succ

set_option maxRecDepth 100000 in
set_option maxHeartbeats 16000000 in
theorem rmul_good (s how a e b f M E X : Int) (w : World) (ht : Tab w) (hc : ckR s how [(a, e), (b, f)] = 0) (hM : mRes s how a e b f = ⟨M, E, X⟩) :
    Calls Tryd.prog 12 #[.int .i64 s, .int .i64 how, .agg #[.int .i64 a, .int .i64 e], .agg #[.int .i64 b, .int .i64 f]] w fun x w' => x = .returned (.tuple #[.agg #[.int .i64 M, .int .i64 E], .int .i64 X]) ∧ Kept w w' := by
  have hlt := ht.lt
  have hlt0 := ht.lt0
  obtain ⟨hd, v1, v2⟩ := ck_facts hc
  obtain ⟨hs, a1, a2, a3, a4, a5⟩ := vld_facts v1
  obtain ⟨_, b1, b2, b3, b4, b5⟩ := vld_facts v2
  have hsz : isSz s = true := decide_eq_true hs
  have hck := fun w ht => refright s how a e b f w ht (by omega) (by omega) (by omega) (by omega)
  rw [hc] at hck
  have HC := Lib.hid hck
  have d1 := dg18 a1
  have d2 := dg18 b1
  have H1 := Lib.hid (fun w ht => Of_any a w ht (by omega) (by omega))
  have H2 := Lib.hid (fun w ht => Of_any b w ht (by omega) (by omega))
  have hr : rRes (pr s) how (decide (a < 0) != decide (b < 0)) (sc (mag a * mag b) (e + f)) false = ⟨M, E, X⟩ := by
    have hS : Same (pr s) (decide (a < 0) != decide (b < 0)) (sc (mag a * mag b) (e + f)) false (pv a e b f) := same_exact rfl
    rw [hS.eq how, ← hM]
    unfold mRes
    rw [okOr_zero _ hc]
  have hdm : dg (mag a * mag b) ≤ 10000 := by have := dg_mulle (mag a) (mag b); omega
  have H3 := Lib.hid (fun W (h : Tab W) u v hu hv => reftimes u v (mag a) (mag b) W h hu hv (by omega) (by omega))
  have H4 := Lib.hid (fun (v : Value) w ht h => gives_out2 hr (refRounded s how (decide (a < 0) != decide (b < 0)) false (mag a * mag b) (e + f) v w ht h hsz hd hdm (by omega) (by omega) (fun h => by cases h)))
  obtain ⟨na, hna⟩ : ∃ x, decide (a < 0) = x := ⟨_, rfl⟩
  obtain ⟨nb, hnb⟩ : ∃ x, decide (b < 0) = x := ⟨_, rfl⟩
  rw [hna, hnb, show (na != nb) = (!(na == nb)) from rfl] at H4
  clear hck hc v1 v2 a1 b1 hM hr hs hsz hd hdm d1 d2
  have q1 : IntKind.i64.wrap (e + f) = e + f := IntWalk.i64_in _ (by omega)
  go_enter Tryd.func12, Tryd.ntmps12
  go_upto_region 4 with (first | (go_at_call 37; (with_reducible refine (HC.out _ (by repeat' (first | (with_reducible assumption) | (with_reducible refine Tab.alloc ?_ _) | (with_reducible refine Tab.drew ?_) | (with_reducible refine Tab.drewN ?_ _) | (with_reducible refine Tab.setCell ?_ ?_ ?_ _) | omega | (simp; done) | (simp; omega)))).mono ?_); rintro e w1 ⟨rfl, hk1⟩; obtain ⟨hc1, hf1⟩ := bcell hk1.2; have ht1 := hk1.1; have hz1 := hk1.2.size; (try simp only [World.size_alloc] at hz1); (try simp only [sz_drew] at hz1); (try simp only [sz_drewN] at hz1); (try simp only [World.size_alloc] at hz1); (try simp only [sz_drew] at hc1 hf1); (try simp only [sz_drewN] at hc1 hf1); (try have hw1 : w.heap.size < w1.heap.size := by omega); (try have hv1 : w.heap.size + 1 < w1.heap.size := by omega); (try have hu1 : w.heap.size + 2 < w1.heap.size := by omega)))
  have hI := (Inv.three ht 25 [.int .i64 a, .int .i64 e] 25 [.int .i64 b, .int .i64 f] 25 [.int .i64 0, .int .i64 0]).call hk1
  clear hc1 hf1
  have HZ : Hid (Own w1 (w.heap.size + 1 + 1) 25 [.int .i64 0, .int .i64 0]) := Lib.hid (hI.own 2 _ rfl)
  have hJ : Inv w [(w.heap.size, 25, [.int .i64 a, .int .i64 e]), (w.heap.size + 1, 25, [.int .i64 b, .int .i64 f])] w1 := hI.init (bs := [_, _])
  (have z0 : w1.cell? ⟨w.heap.size + 1 + 1, 0, none⟩ = some (.int .i64 0) := (hI.own 2 _ rfl).cell 0; have z1 : w1.cell? ⟨w.heap.size + 1 + 1, 1, none⟩ = some (.int .i64 0) := (hI.own 2 _ rfl).cell 1; have zf := fun i => (hI.own 2 _ rfl).frozen i; have zl : w.heap.size + 1 + 1 < w1.heap.size := (hI.own 2 _ rfl).lt)
  clear hI
  go_region_held3 (fun w' => Inv w [(w.heap.size, 25, [.int .i64 a, .int .i64 e]), (w.heap.size + 1, 25, [.int .i64 b, .int .i64 f])] w' ∧ Tab w' ∧ w'.cell? ⟨w.heap.size, 0, none⟩ = some (.int .i64 a) ∧ w'.cell? ⟨w.heap.size, 1, none⟩ = some (.int .i64 e) ∧ w'.cell? ⟨w.heap.size + 1, 0, none⟩ = some (.int .i64 b) ∧ w'.cell? ⟨w.heap.size + 1, 1, none⟩ = some (.int .i64 f))
    ((refine reals_pack ?_; repeat' (first | (with_reducible assumption) | (with_reducible refine Inv.drew ?_) | (with_reducible refine Inv.alloc ?_ _) | (with_reducible refine Inv.call ?_ (by assumption)) | (with_reducible refine Inv.far ?_ ?_ ?_ ?_ ?_ _) | omega | (simp; done) | (simp; omega))))
    (first | (go_at_call 44; (with_reducible refine (H1.out _ (by repeat' (first | (with_reducible assumption) | (with_reducible refine Tab.alloc ?_ _) | (with_reducible refine Tab.drew ?_) | (with_reducible refine Tab.drewN ?_ _) | (with_reducible refine Tab.setCell ?_ ?_ ?_ _) | omega | (simp; done) | (simp; omega)))).mono ?_); rintro e w2 ⟨v2, rfl, hs2, hk2, -⟩; obtain ⟨hc2, hf2⟩ := bcell hk2.2; have ht2 := hk2.1; have hz2 := hk2.2.size; (try simp only [World.size_alloc] at hz2); (try simp only [sz_drew] at hz2); (try simp only [sz_drewN] at hz2); (try simp only [World.size_alloc] at hz2); (try simp only [sz_drew] at hc2 hf2); (try simp only [sz_drewN] at hc2 hf2); (try have hw2 : w.heap.size < w2.heap.size := by omega); (try have hv2 : w.heap.size + 1 < w2.heap.size := by omega); (try have hu2 : w.heap.size + 2 < w2.heap.size := by omega)) | (go_at_call 44; (with_reducible refine (H2.out _ (by repeat' (first | (with_reducible assumption) | (with_reducible refine Tab.alloc ?_ _) | (with_reducible refine Tab.drew ?_) | (with_reducible refine Tab.drewN ?_ _) | (with_reducible refine Tab.setCell ?_ ?_ ?_ _) | omega | (simp; done) | (simp; omega)))).mono ?_); rintro e w3 ⟨v3, rfl, hs3, hk3, -⟩; obtain ⟨hc3, hf3⟩ := bcell hk3.2; have ht3 := hk3.1; have hz3 := hk3.2.size; (try simp only [World.size_alloc] at hz3); (try simp only [sz_drew] at hz3); (try simp only [sz_drewN] at hz3); (try simp only [World.size_alloc] at hz3); (try simp only [sz_drew] at hc3 hf3); (try simp only [sz_drewN] at hc3 hf3); (try have hw3 : w.heap.size < w3.heap.size := by omega); (try have hv3 : w.heap.size + 1 < w3.heap.size := by omega); (try have hu3 : w.heap.size + 2 < w3.heap.size := by omega)) | (go_at_call 43; (with_reducible refine Calls.mono (H3.out _ (by repeat' (first | (with_reducible assumption) | (with_reducible refine Tab.alloc ?_ _) | (with_reducible refine Tab.drew ?_) | (with_reducible refine Tab.drewN ?_ _) | (with_reducible refine Tab.setCell ?_ ?_ ?_ _) | omega | (simp; done) | (simp; omega))) _ _ ?_ ?_) ?_); (focus (repeat' (first | (with_reducible assumption) | (with_reducible refine Sl.alloc ?_ _) | (with_reducible refine Sl.drew ?_) | (with_reducible refine Sl.drewN ?_ _) | (with_reducible refine Sl.call ?_ (by assumption))))); (focus (repeat' (first | (with_reducible assumption) | (with_reducible refine Sl.alloc ?_ _) | (with_reducible refine Sl.drew ?_) | (with_reducible refine Sl.drewN ?_ _) | (with_reducible refine Sl.call ?_ (by assumption))))); rintro e w4 ⟨v4, rfl, hs4, hk4⟩; obtain ⟨p4, q4, r4, rfl, -⟩ := hs4.form; obtain ⟨hc4, hf4⟩ := bcell hk4.2; have ht4 := hk4.1; have hz4 := hk4.2.size; (try simp only [World.size_alloc] at hz4); (try simp only [sz_drew] at hz4); (try simp only [sz_drewN] at hz4); (try simp only [World.size_alloc] at hz4); (try simp only [sz_drew] at hc4 hf4); (try simp only [sz_drewN] at hc4 hf4); (try have hw4 : w.heap.size < w4.heap.size := by omega); (try have hv4 : w.heap.size + 1 < w4.heap.size := by omega); (try have hu4 : w.heap.size + 2 < w4.heap.size := by omega)) | (go_at_call 38; (with_reducible refine Calls.mono (H4.out _ _ (by repeat' (first | (with_reducible assumption) | (with_reducible refine Tab.alloc ?_ _) | (with_reducible refine Tab.drew ?_) | (with_reducible refine Tab.drewN ?_ _) | (with_reducible refine Tab.setCell ?_ ?_ ?_ _) | omega | (simp; done) | (simp; omega))) ?_) ?_); (focus (repeat' (first | (with_reducible assumption) | (with_reducible refine Sl.alloc ?_ _) | (with_reducible refine Sl.drew ?_) | (with_reducible refine Sl.drewN ?_ _) | (with_reducible refine Sl.call ?_ (by assumption))))); rintro e w5 ⟨rfl, hk5⟩; obtain ⟨hc5, hf5⟩ := bcell hk5.2; have ht5 := hk5.1; have hz5 := hk5.2.size; (try simp only [World.size_alloc] at hz5); (try simp only [sz_drew] at hz5); (try simp only [sz_drewN] at hz5); (try simp only [World.size_alloc] at hz5); (try simp only [sz_drew] at hc5 hf5); (try simp only [sz_drewN] at hc5 hf5); (try have hw5 : w.heap.size < w5.heap.size := by omega); (try have hv5 : w.heap.size + 1 < w5.heap.size := by omega); (try have hu5 : w.heap.size + 2 < w5.heap.size := by omega)))
  clear q1
  go_wp2_with fail
  have hF := (((((HZ.out.drew.call hk2).call hk3).call hk4).call hk5).put 0 (.int .i64 M)).put 1 (.int .i64 E)
  refine bodyPost_ret (ret_own_tmp rfl hF rfl Tryd.underlying25 rfl (by kernel_rfl)) rfl ?_
  exact ⟨rfl, (by repeat' (first | (with_reducible assumption) | (with_reducible exact Kept.refl ht) | (with_reducible refine Kept.alloc ?_ _) | (with_reducible refine Kept.drew ?_) | (with_reducible refine Kept.drewN ?_ _) | (with_reducible refine Kept.setCell ?_ ?_ _ ?_ ?_) | (with_reducible refine Kept.trans ?_ (by assumption)) | omega | (simp; done) | (simp; omega)))⟩
set_option maxRecDepth 100000 in
set_option maxHeartbeats 16000000 in
theorem rdiv_good (s how a e b f M E X : Int) (w : World) (ht : Tab w) (hc : ckR s how [(a, e), (b, f)] = 0) (hb0 : ¬ b = 0) (hM : dRes s how a e b f = ⟨M, E, X⟩) :
    Calls Tryd.prog 14 #[.int .i64 s, .int .i64 how, .agg #[.int .i64 a, .int .i64 e], .agg #[.int .i64 b, .int .i64 f]] w fun x w' => x = .returned (.tuple #[.agg #[.int .i64 M, .int .i64 E], .int .i64 X]) ∧ Kept w w' := by
  have hlt := ht.lt
  have hlt0 := ht.lt0
  obtain ⟨hd, v1, v2⟩ := ck_facts hc
  obtain ⟨hs, a1, a2, a3, a4, a5⟩ := vld_facts v1
  obtain ⟨_, b1, b2, b3, b4, b5⟩ := vld_facts v2
  have hsz : isSz s = true := decide_eq_true hs
  have hck := fun w ht => refright s how a e b f w ht (by omega) (by omega) (by omega) (by omega)
  rw [hc] at hck
  have HC := Lib.hid hck
  have d1 := dg18 a1
  have d2 := dg18 b1
  have H1 := Lib.hid (fun w ht => Of_any a w ht (by omega) (by omega))
  have H2 := Lib.hid (fun w ht => Of_any b w ht (by omega) (by omega))
  have hbm : 0 < mag b := by unfold mag; omega
  have hr : rRes (pr s) how (decide (a < 0) != decide (b < 0)) (sc (mag a * 10 ^ 40 / mag b) (e - f - 40)) (decide (mag a * 10 ^ 40 % mag b ≠ 0)) = ⟨M, E, X⟩ := by
    rw [← hM]
    unfold dRes
    rw [okOr_zero _ hc, if_neg hb0]
    by_cases ha0 : a = 0
    · rw [if_pos ha0]
      subst ha0
      rw [show mag 0 = 0 from rfl, Nat.zero_mul, Nat.zero_div, Nat.zero_mod]
      exact zero_rRes
    · rw [if_neg ha0]
      exact div_same (pr18 s) (by unfold mag; omega) d1 (by omega) b1 (by omega)
  have hmo : mag a * 10 ^ 40 % mag b ≠ 0 → 18 < dg (mag a * 10 ^ 40 / mag b) := fun h => by
    by_cases ha0 : a = 0
    · subst ha0
      exact absurd (by rw [show mag 0 = 0 from rfl, Nat.zero_mul, Nat.zero_mod]) h
    · exact div_dg (by unfold mag; omega) d1 (by omega) b1
  have hd40 : dg (mag a * 10 ^ 40) ≤ 80 := by
    have h1 := dg_mulle (mag a) (10 ^ 40)
    have h2 : dg (10 ^ 40) ≤ 41 := (dg_iff _ _).2 (Nat.pow_lt_pow_right (by omega) (by omega))
    omega
  have hdQ : dg (mag a * 10 ^ 40 / mag b) ≤ 80 := Nat.le_trans (dg_mono (Nat.div_le_self _ _)) hd40
  obtain ⟨lr, hlr⟩ : ∃ lr, (ds (mag a * 10 ^ 40 % mag b)).length = lr := ⟨_, rfl⟩
  have H3 : Hid (∀ W, Tab W → ∀ u, Sl W u (ds (mag a)) → Calls Tryd.prog 47 #[u, .int .i64 40] W fun e w' => ∃ v', e = .returned v' ∧ Sl w' v' (ds (mag a * 10 ^ 40)) ∧ Kept W w') := Lib.hid (fun W h u hu => refshift u (mag a) 40 W h hu (by omega) (by omega))
  have H5 : Hid (∀ W, Tab W → ∀ u v, Sl W u (ds (mag a * 10 ^ 40)) → Sl W v (ds (mag b)) → Calls Tryd.prog 46 #[u, v] W fun x w' => ∃ b1 o1 n1 c1 b2 o2 c2 : Nat, x = .returned (.tuple #[.slice (some ⟨b1, o1, none⟩) n1 c1, .slice (some ⟨b2, o2, none⟩) lr c2]) ∧ Sl w' (.slice (some ⟨b1, o1, none⟩) n1 c1) (ds (mag a * 10 ^ 40 / mag b)) ∧ Kept W w') := Lib.hid (fun W h u v hu hv => by
    refine (refdivide u v _ _ W h hu hv (by omega) (by omega) hbm).mono fun x w' ⟨q, r, hx, hq, hr, hk⟩ => ?_
    obtain ⟨b1, o1, c1, rfl, _⟩ := hq.form
    obtain ⟨b2, o2, c2, rfl, _⟩ := hr.form
    rw [hlr] at hx
    exact ⟨_, _, _, _, _, _, _, hx, hq, hk⟩)
  have H4 := Lib.hid (fun (v : Value) w ht h => gives_out2 hr (refRounded s how (decide (a < 0) != decide (b < 0)) (decide (mag a * 10 ^ 40 % mag b ≠ 0)) (mag a * 10 ^ 40 / mag b) (e - f - 40) v w ht h hsz hd (by omega) (by omega) (by omega) (fun h => hmo (of_decide_eq_true h))))
  obtain ⟨na, hna⟩ : ∃ x, decide (a < 0) = x := ⟨_, rfl⟩
  obtain ⟨nb, hnb⟩ : ∃ x, decide (b < 0) = x := ⟨_, rfl⟩
  rw [hna, hnb, show (na != nb) = (!(na == nb)) from rfl] at H4
  have hb00 : (b == 0) = false := by simpa using hb0
  have HP : Hid (∀ w', Inv w [(w.heap.size, 25, [.int .i64 a, .int .i64 e]), (w.heap.size + 1, 25, [.int .i64 b, .int .i64 f]), (w.heap.size + 1 + 1, 25, [.int .i64 0, .int .i64 0])] w' → Inv w [(w.heap.size, 25, [.int .i64 a, .int .i64 e]), (w.heap.size + 1, 25, [.int .i64 b, .int .i64 f]), (w.heap.size + 1 + 1, 25, [.int .i64 0, .int .i64 0])] w' ∧ Tab w' ∧ w'.cell? ⟨w.heap.size, 0, none⟩ = some (.int .i64 a) ∧ w'.cell? ⟨w.heap.size, 1, none⟩ = some (.int .i64 e) ∧ w'.cell? ⟨w.heap.size + 1, 0, none⟩ = some (.int .i64 b) ∧ w'.cell? ⟨w.heap.size + 1, 1, none⟩ = some (.int .i64 f)) := Lib.hid (fun w' h => ⟨h, h.kept.1, (h.own 0 _ rfl).cell 0, (h.own 0 _ rfl).cell 1, (h.own 1 _ rfl).cell 0, (h.own 1 _ rfl).cell 1⟩)
  generalize mag a * 10 ^ 40 / mag b = Q at *
  generalize mag a * 10 ^ 40 % mag b = R at *
  have hcs : (R = 0 ∧ lr = 0) ∨ (R ≠ 0 ∧ 0 < lr) := by
    rw [← hlr, ds_len]
    by_cases h : R = 0
    · left; subst h; exact ⟨rfl, dg_zero⟩
    · exact Or.inr ⟨h, by have := dg_ne h; omega⟩
  clear hck hc v1 v2 a1 b1 hM hr hs hsz hd d1 d2 hmo hd40 hdQ hlr hbm hb0
  rcases hcs with ⟨hR, rfl⟩ | ⟨hR, hlr0⟩
  all_goals
    (first | rw [decide_eq_false (by rw [hR]; decide)] at H4 | rw [decide_eq_true hR] at H4)
    clear hR
    go_enter Tryd.func14, Tryd.ntmps14
    go_upto_region 4 with (first | (go_at_call 37; (with_reducible refine (HC.out _ (by repeat' (first | (with_reducible assumption) | (with_reducible refine Tab.alloc ?_ _) | (with_reducible refine Tab.drew ?_) | (with_reducible refine Tab.drewN ?_ _) | (with_reducible refine Tab.setCell ?_ ?_ ?_ _) | omega | (simp; done) | (simp; omega)))).mono ?_); rintro e w1 ⟨rfl, hk1⟩; obtain ⟨hc1, hf1⟩ := bcell hk1.2; have ht1 := hk1.1; have hz1 := hk1.2.size; (try simp only [World.size_alloc] at hz1); (try simp only [sz_drew] at hz1); (try simp only [sz_drewN] at hz1); (try simp only [World.size_alloc] at hz1); (try simp only [sz_drew] at hc1 hf1); (try simp only [sz_drewN] at hc1 hf1); (try have hw1 : w.heap.size < w1.heap.size := by omega); (try have hv1 : w.heap.size + 1 < w1.heap.size := by omega); (try have hu1 : w.heap.size + 2 < w1.heap.size := by omega)))
    have hI := (Inv.three ht 25 [.int .i64 a, .int .i64 e] 25 [.int .i64 b, .int .i64 f] 25 [.int .i64 0, .int .i64 0]).call hk1
    clear hc1 hf1
    (have y0 : w1.cell? ⟨w.heap.size + 1, 0, none⟩ = some (.int .i64 b) := (hI.own 1 _ rfl).cell 0; have y1 : w1.cell? ⟨w.heap.size + 1, 1, none⟩ = some (.int .i64 f) := (hI.own 1 _ rfl).cell 1; have yf := fun i => (hI.own 1 _ rfl).frozen i; have yl : w.heap.size + 1 < w1.heap.size := (hI.own 1 _ rfl).lt)
    go_upto_region 6 with fail
    clear y0 y1 yf yl
    go_region_held3 (fun w' => Inv w [(w.heap.size, 25, [.int .i64 a, .int .i64 e]), (w.heap.size + 1, 25, [.int .i64 b, .int .i64 f]), (w.heap.size + 1 + 1, 25, [.int .i64 0, .int .i64 0])] w' ∧ Tab w' ∧ w'.cell? ⟨w.heap.size, 0, none⟩ = some (.int .i64 a) ∧ w'.cell? ⟨w.heap.size, 1, none⟩ = some (.int .i64 e) ∧ w'.cell? ⟨w.heap.size + 1, 0, none⟩ = some (.int .i64 b) ∧ w'.cell? ⟨w.heap.size + 1, 1, none⟩ = some (.int .i64 f))
      ((refine HP.out _ ?_; repeat' (first | (with_reducible assumption) | (with_reducible refine Inv.drew ?_) | (with_reducible refine Inv.alloc ?_ _) | (with_reducible refine Inv.call ?_ (by assumption)) | (with_reducible refine Inv.far ?_ ?_ ?_ ?_ ?_ _) | omega | (simp; done) | (simp; omega))))
      (first | (go_at_call 44; (with_reducible refine (H1.out _ (by repeat' (first | (with_reducible assumption) | (with_reducible refine Tab.alloc ?_ _) | (with_reducible refine Tab.drew ?_) | (with_reducible refine Tab.drewN ?_ _) | (with_reducible refine Tab.setCell ?_ ?_ ?_ _) | omega | (simp; done) | (simp; omega)))).mono ?_); rintro e w2 ⟨v2, rfl, hs2, hk2, -⟩; obtain ⟨hc2, hf2⟩ := bcell hk2.2; have ht2 := hk2.1; have hz2 := hk2.2.size; (try simp only [World.size_alloc] at hz2); (try simp only [sz_drew] at hz2); (try simp only [sz_drewN] at hz2); (try simp only [World.size_alloc] at hz2); (try simp only [sz_drew] at hc2 hf2); (try simp only [sz_drewN] at hc2 hf2); (try have hw2 : w.heap.size < w2.heap.size := by omega); (try have hv2 : w.heap.size + 1 < w2.heap.size := by omega); (try have hu2 : w.heap.size + 2 < w2.heap.size := by omega)) | (go_at_call 44; (with_reducible refine (H2.out _ (by repeat' (first | (with_reducible assumption) | (with_reducible refine Tab.alloc ?_ _) | (with_reducible refine Tab.drew ?_) | (with_reducible refine Tab.drewN ?_ _) | (with_reducible refine Tab.setCell ?_ ?_ ?_ _) | omega | (simp; done) | (simp; omega)))).mono ?_); rintro e w3 ⟨v3, rfl, hs3, hk3, -⟩; obtain ⟨hc3, hf3⟩ := bcell hk3.2; have ht3 := hk3.1; have hz3 := hk3.2.size; (try simp only [World.size_alloc] at hz3); (try simp only [sz_drew] at hz3); (try simp only [sz_drewN] at hz3); (try simp only [World.size_alloc] at hz3); (try simp only [sz_drew] at hc3 hf3); (try simp only [sz_drewN] at hc3 hf3); (try have hw3 : w.heap.size < w3.heap.size := by omega); (try have hv3 : w.heap.size + 1 < w3.heap.size := by omega); (try have hu3 : w.heap.size + 2 < w3.heap.size := by omega)) | (go_at_call 47; (with_reducible refine Calls.mono (H3.out _ (by repeat' (first | (with_reducible assumption) | (with_reducible refine Tab.alloc ?_ _) | (with_reducible refine Tab.drew ?_) | (with_reducible refine Tab.drewN ?_ _) | (with_reducible refine Tab.setCell ?_ ?_ ?_ _) | omega | (simp; done) | (simp; omega))) _ ?_) ?_); (focus (repeat' (first | (with_reducible assumption) | (with_reducible refine Sl.alloc ?_ _) | (with_reducible refine Sl.drew ?_) | (with_reducible refine Sl.drewN ?_ _) | (with_reducible refine Sl.call ?_ (by assumption))))); rintro e w4 ⟨v4, rfl, hs4, hk4⟩; obtain ⟨hc4, hf4⟩ := bcell hk4.2; have ht4 := hk4.1; have hz4 := hk4.2.size; (try simp only [World.size_alloc] at hz4); (try simp only [sz_drew] at hz4); (try simp only [sz_drewN] at hz4); (try simp only [World.size_alloc] at hz4); (try simp only [sz_drew] at hc4 hf4); (try simp only [sz_drewN] at hc4 hf4); (try have hw4 : w.heap.size < w4.heap.size := by omega); (try have hv4 : w.heap.size + 1 < w4.heap.size := by omega); (try have hu4 : w.heap.size + 2 < w4.heap.size := by omega)) | (go_at_call 46; (with_reducible refine Calls.mono (H5.out _ (by repeat' (first | (with_reducible assumption) | (with_reducible refine Tab.alloc ?_ _) | (with_reducible refine Tab.drew ?_) | (with_reducible refine Tab.drewN ?_ _) | (with_reducible refine Tab.setCell ?_ ?_ ?_ _) | omega | (simp; done) | (simp; omega))) _ _ ?_ ?_) ?_); (focus (repeat' (first | (with_reducible assumption) | (with_reducible refine Sl.alloc ?_ _) | (with_reducible refine Sl.drew ?_) | (with_reducible refine Sl.drewN ?_ _) | (with_reducible refine Sl.call ?_ (by assumption))))); (focus (repeat' (first | (with_reducible assumption) | (with_reducible refine Sl.alloc ?_ _) | (with_reducible refine Sl.drew ?_) | (with_reducible refine Sl.drewN ?_ _) | (with_reducible refine Sl.call ?_ (by assumption))))); rintro e w5 ⟨p5, q5, n5, r5, i5, j5, k5, rfl, hs5, hk5⟩; obtain ⟨hc5, hf5⟩ := bcell hk5.2; have ht5 := hk5.1; have hz5 := hk5.2.size; (try simp only [World.size_alloc] at hz5); (try simp only [sz_drew] at hz5); (try simp only [sz_drewN] at hz5); (try simp only [World.size_alloc] at hz5); (try simp only [sz_drew] at hc5 hf5); (try simp only [sz_drewN] at hc5 hf5); (try have hw5 : w.heap.size < w5.heap.size := by omega); (try have hv5 : w.heap.size + 1 < w5.heap.size := by omega); (try have hu5 : w.heap.size + 2 < w5.heap.size := by omega)))
    clear hc2 hf2 hc3 hf3 hc4 hf4 hc5 hf5
    have hI5 : Inv w [(w.heap.size, 25, [.int .i64 a, .int .i64 e]), (w.heap.size + 1, 25, [.int .i64 b, .int .i64 f]), (w.heap.size + 1 + 1, 25, [.int .i64 0, .int .i64 0])] w5 := by repeat' (first | (with_reducible assumption) | (with_reducible refine Inv.drew ?_) | (with_reducible refine Inv.alloc ?_ _) | (with_reducible refine Inv.call ?_ (by assumption)) | (with_reducible refine Inv.far ?_ ?_ ?_ ?_ ?_ _) | omega | (simp; done) | (simp; omega))
    obtain ⟨-, -, x0, x1, y0, y1⟩ := HP.out _ hI5
    (have z0 : w5.cell? ⟨w.heap.size + 1 + 1, 0, none⟩ = some (.int .i64 0) := (hI5.own 2 _ rfl).cell 0; have z1 : w5.cell? ⟨w.heap.size + 1 + 1, 1, none⟩ = some (.int .i64 0) := (hI5.own 2 _ rfl).cell 1; have zf := fun i => (hI5.own 2 _ rfl).frozen i; have zl : w.heap.size + 1 + 1 < w5.heap.size := (hI5.own 2 _ rfl).lt)
    have HZ : Hid (Own w5 (w.heap.size + 1 + 1) 25 [.int .i64 0, .int .i64 0]) := Lib.hid (hI5.own 2 _ rfl)
    have hw5 := hI5.kept
    have hx5 := (hI5.own 0 _ rfl).lt
    have hy5 := (hI5.own 1 _ rfl).lt
    go_wp2_with (first | (go_at_call 38; (with_reducible refine Calls.mono (H4.out _ _ (by repeat' (first | (with_reducible assumption) | (with_reducible refine Tab.alloc ?_ _) | (with_reducible refine Tab.drew ?_) | (with_reducible refine Tab.drewN ?_ _) | (with_reducible refine Tab.setCell ?_ ?_ ?_ _) | omega | (simp; done) | (simp; omega))) ?_) ?_); (focus (repeat' (first | (with_reducible assumption) | (with_reducible refine Sl.alloc ?_ _) | (with_reducible refine Sl.drew ?_) | (with_reducible refine Sl.drewN ?_ _) | (with_reducible refine Sl.call ?_ (by assumption))))); rintro e w6 ⟨rfl, hk6⟩; obtain ⟨hc6, hf6⟩ := bcell hk6.2; have ht6 := hk6.1; have hz6 := hk6.2.size; (try simp only [World.size_alloc] at hz6); (try simp only [sz_drew] at hz6); (try simp only [sz_drewN] at hz6); (try simp only [World.size_alloc] at hz6); (try simp only [sz_drew] at hc6 hf6); (try simp only [sz_drewN] at hc6 hf6); (try have hw6 : w.heap.size < w6.heap.size := by omega); (try have hv6 : w.heap.size + 1 < w6.heap.size := by omega); (try have hu6 : w.heap.size + 2 < w6.heap.size := by omega)))
    have hF := ((HZ.out.call hk6).put 0 (.int .i64 M)).put 1 (.int .i64 E)
    refine bodyPost_ret (ret_own_tmp rfl hF rfl Tryd.underlying25 rfl (by kernel_rfl)) rfl ?_
    exact ⟨rfl, (by repeat' (first | (with_reducible assumption) | (with_reducible exact Kept.refl ht) | (with_reducible refine Kept.alloc ?_ _) | (with_reducible refine Kept.drew ?_) | (with_reducible refine Kept.drewN ?_ _) | (with_reducible refine Kept.setCell ?_ ?_ _ ?_ ?_) | (with_reducible refine Kept.trans ?_ (by assumption)) | omega | (simp; done) | (simp; omega)))⟩
set_option maxRecDepth 100000 in
set_option maxHeartbeats 16000000 in
theorem rdiv_zero (s how a e b f : Int) (w : World) (ht : Tab w) (hc : ckR s how [(a, e), (b, f)] = 0) (hb0 : b = 0) :
    Calls Tryd.prog 14 #[.int .i64 s, .int .i64 how, .agg #[.int .i64 a, .int .i64 e], .agg #[.int .i64 b, .int .i64 f]] w fun x w' => x = .returned (.tuple #[.agg #[.int .i64 0, .int .i64 0], .int .i64 11]) ∧ Kept w w' := by
  have hlt := ht.lt
  have hlt0 := ht.lt0
  obtain ⟨_, v1, v2⟩ := ck_facts hc
  obtain ⟨_, _, _, _, a4, a5⟩ := vld_facts v1
  have hck := fun w ht => refright s how a e b f w ht (by omega) (by omega) (by omega) (by omega)
  rw [hc] at hck
  subst hb0
  have HC := Lib.hid hck
  clear hck hc v1 v2
  go_enter Tryd.func14, Tryd.ntmps14
  go_upto_region 4 with (first | (go_at_call 37; (with_reducible refine (HC.out _ (by repeat' (first | (with_reducible assumption) | (with_reducible refine Tab.alloc ?_ _) | (with_reducible refine Tab.drew ?_) | (with_reducible refine Tab.drewN ?_ _) | (with_reducible refine Tab.setCell ?_ ?_ ?_ _) | omega | (simp; done) | (simp; omega)))).mono ?_); rintro e w1 ⟨rfl, hk1⟩; obtain ⟨hc1, hf1⟩ := bcell hk1.2; have ht1 := hk1.1; have hz1 := hk1.2.size; (try simp only [World.size_alloc] at hz1); (try simp only [sz_drew] at hz1); (try simp only [sz_drewN] at hz1); (try simp only [World.size_alloc] at hz1); (try simp only [sz_drew] at hc1 hf1); (try simp only [sz_drewN] at hc1 hf1); (try have hw1 : w.heap.size < w1.heap.size := by omega); (try have hv1 : w.heap.size + 1 < w1.heap.size := by omega); (try have hu1 : w.heap.size + 2 < w1.heap.size := by omega)))
  have hI := (Inv.three ht 25 [.int .i64 a, .int .i64 e] 25 [.int .i64 0, .int .i64 f] 25 [.int .i64 0, .int .i64 0]).call hk1
  clear hc1 hf1
  have HZ : Hid (Own w1 (w.heap.size + 1 + 1) 25 [.int .i64 0, .int .i64 0]) := Lib.hid (hI.own 2 _ rfl)
  (have y0 : w1.cell? ⟨w.heap.size + 1, 0, none⟩ = some (.int .i64 0) := (hI.own 1 _ rfl).cell 0; have y1 : w1.cell? ⟨w.heap.size + 1, 1, none⟩ = some (.int .i64 f) := (hI.own 1 _ rfl).cell 1; have yf := fun i => (hI.own 1 _ rfl).frozen i; have yl : w.heap.size + 1 < w1.heap.size := (hI.own 1 _ rfl).lt)
  (have z0 : w1.cell? ⟨w.heap.size + 1 + 1, 0, none⟩ = some (.int .i64 0) := (hI.own 2 _ rfl).cell 0; have z1 : w1.cell? ⟨w.heap.size + 1 + 1, 1, none⟩ = some (.int .i64 0) := (hI.own 2 _ rfl).cell 1; have zf := fun i => (hI.own 2 _ rfl).frozen i; have zl : w.heap.size + 1 + 1 < w1.heap.size := (hI.own 2 _ rfl).lt)
  clear hI
  go_wp2
  have hF := (HZ.out.put 0 (.int .i64 0)).put 1 (.int .i64 0)
  refine bodyPost_ret (ret_own_tmp rfl hF rfl Tryd.underlying25 rfl (by kernel_rfl)) rfl ?_
  exact ⟨rfl, (by repeat' (first | (with_reducible assumption) | (with_reducible exact Kept.refl ht) | (with_reducible refine Kept.alloc ?_ _) | (with_reducible refine Kept.drew ?_) | (with_reducible refine Kept.drewN ?_ _) | (with_reducible refine Kept.setCell ?_ ?_ _ ?_ ?_) | (with_reducible refine Kept.trans ?_ (by assumption)) | omega | (simp; done) | (simp; omega)))⟩
theorem rmul_any (s how a e b f : Int) (w : World) (ht : Tab w) (la : -9223372036854775808 ≤ a) (ha : a ≤ 9223372036854775807) (lb : -9223372036854775808 ≤ b) (hb : b ≤ 9223372036854775807) :
    Calls Tryd.prog 12 #[.int .i64 s, .int .i64 how, .agg #[.int .i64 a, .int .i64 e], .agg #[.int .i64 b, .int .i64 f]] w (Gives (mRes s how a e b f) w) := by
  rcases ck_cases (c := ckR s how [(a, e), (b, f)]) with hc | hc
  · exact gives_mk _ _ _ (rmul_good s how a e b f _ _ _ w ht hc rfl)
  · unfold mRes
    rw [okOr_ne _ hc]
    exact gives_mk _ _ _ (rmul_bad s how a e b f _ w ht la ha lb hb rfl hc)
theorem rdiv_any (s how a e b f : Int) (w : World) (ht : Tab w) (la : -9223372036854775808 ≤ a) (ha : a ≤ 9223372036854775807) (lb : -9223372036854775808 ≤ b) (hb : b ≤ 9223372036854775807) :
    Calls Tryd.prog 14 #[.int .i64 s, .int .i64 how, .agg #[.int .i64 a, .int .i64 e], .agg #[.int .i64 b, .int .i64 f]] w (Gives (dRes s how a e b f) w) := by
  rcases ck_cases (c := ckR s how [(a, e), (b, f)]) with hc | hc
  · by_cases hb0 : b = 0
    · unfold dRes
      rw [okOr_zero _ hc, if_pos hb0]
      exact gives_mk _ _ _ (rdiv_zero s how a e b f w ht hc hb0)
    · exact gives_mk _ _ _ (rdiv_good s how a e b f _ _ _ w ht hc hb0 rfl)
  · unfold dRes
    rw [okOr_ne _ hc]
    exact gives_mk _ _ _ (rdiv_bad s how a e b f _ w ht la ha lb hb rfl hc)
end Go.Proofs.YtanfhlkfmmglhaaDoor
