/- The program's grows and real: whether a number is rounded away from 0, and the form of a number. Condition: the tables hold what their initialisers lay. -/
import Derived.Test.YtanfhlkfmmglhaaDoorGCut
namespace Go.Proofs.YtanfhlkfmmglhaaDoor
open Go.ChangeShapes Go.WideShapes Go.ChangeAt Go.RowKit
attribute [local go_sem ↓] Go.wp_at_zero Go.wp_at_succ

theorem lo_mod2 (n : Nat) : loW n % 2 = n % 2 := by unfold loW; omega
theorem grow_zero' (neg : Bool) (q : Nat) (t : Nat) : grow 0 neg q t = decide (t = 3 ∨ (t = 2 ∧ q % 2 = 1)) := by unfold grow; rw [if_pos rfl]
theorem grow_other {how : Int} (h : ¬ how = 0) (neg : Bool) (q : Nat) (t : Nat) : grow how neg q t = (decide (t ≠ 0) && !inw how neg) := by unfold grow; rw [if_neg h]

set_option maxHeartbeats 1000000 in
theorem grows_any (neg : Bool) (n : Nat) (e : Int) (m : Bool) (how : Int) (t : Nat) (w : World) (ht : Tab w) (h3 : t ≤ 3) :
    Calls Tryd.prog 70 #[.agg #[.bool neg, .int .u64 (hiW n : Int), .int .u64 (loW n : Int), .int .i64 e, .bool m], .int .i64 how, .int .i64 (t : Int)] w fun x w' => x = .returned (.bool (grow how neg n t)) ∧ Kept w w' := by
  have hlt := ht.lt
  have _hlt0 := ht.lt0
  by_cases h : how = 0
  · subst h
    rw [grow_zero']
    have ho := lo_mod2 n
    rcases (by omega : n % 2 = 0 ∨ n % 2 = 1) with hp | hp
    · rw [hp] at ho
      have h2 : ((loW n : Int) % 2 != 0) = false := by rw [bne_eq_false_iff_eq]; omega
      have e1 : decide (t = 3 ∨ (t = 2 ∧ n % 2 = 1)) = decide (t = 3) := by congr 1; simp; omega
      rw [e1]
      clear e1 hp ho
      rcases (by omega : t = 0 ∨ t = 1 ∨ t = 2 ∨ t = 3) with h | h | h | h
      all_goals
        subst h
        go_enter Tryd.func70, Tryd.ntmps70
        go_wp2
        go_returns
        exact ⟨by simp, (by repeat' (first | (with_reducible assumption) | (with_reducible exact Kept.refl ht) | (with_reducible refine Kept.alloc ?_ _) | (with_reducible refine Kept.drew ?_) | (with_reducible refine Kept.drewN ?_ _) | (with_reducible refine Kept.setCell ?_ ?_ _ ?_ ?_) | (with_reducible refine Kept.trans ?_ (by assumption)) | omega | (simp; done) | (simp; omega)))⟩
    · rw [hp] at ho
      have h2 : ((loW n : Int) % 2 != 0) = true := by rw [bne_iff_ne]; omega
      have e1 : decide (t = 3 ∨ (t = 2 ∧ n % 2 = 1)) = decide (t = 3 ∨ t = 2) := by congr 1; simp; omega
      rw [e1]
      clear e1 hp ho
      rcases (by omega : t = 0 ∨ t = 1 ∨ t = 2 ∨ t = 3) with h | h | h | h
      all_goals
        subst h
        go_enter Tryd.func70, Tryd.ntmps70
        go_wp2
        go_returns
        exact ⟨by simp, (by repeat' (first | (with_reducible assumption) | (with_reducible exact Kept.refl ht) | (with_reducible refine Kept.alloc ?_ _) | (with_reducible refine Kept.drew ?_) | (with_reducible refine Kept.drewN ?_ _) | (with_reducible refine Kept.setCell ?_ ?_ _ ?_ ?_) | (with_reducible refine Kept.trans ?_ (by assumption)) | omega | (simp; done) | (simp; omega)))⟩
  · rw [grow_other h]
    have h' : (how != 0) = true := by rw [bne_iff_ne]; exact h
    have h1 : ¬ how = 0 := h
    clear h
    rcases (by omega : t = 0 ∨ t = 1 ∨ t = 2 ∨ t = 3) with h | h | h | h
    all_goals
      subst h
      go_enter Tryd.func70, Tryd.ntmps70
      go_wp2_with (first | (go_at_call 72; (with_reducible refine (inwards_any how neg _).mono ?_); rintro e w' ⟨rfl, rfl⟩))
      go_returns
      exact ⟨by simp, (by repeat' (first | (with_reducible assumption) | (with_reducible exact Kept.refl ht) | (with_reducible refine Kept.alloc ?_ _) | (with_reducible refine Kept.drew ?_) | (with_reducible refine Kept.drewN ?_ _) | (with_reducible refine Kept.setCell ?_ ?_ _ ?_ ?_) | (with_reducible refine Kept.trans ?_ (by assumption)) | omega | (simp; done) | (simp; omega)))⟩

set_option maxHeartbeats 1000000 in
theorem real_zero (neg : Bool) (e : Int) (m : Bool) (w : World) (ht : Tab w) : Calls Tryd.prog 71 #[.agg #[.bool neg, .int .u64 (hiW 0 : Int), .int .u64 (loW 0 : Int), .int .i64 e, .bool m]] w fun x w' => x = .returned (.agg #[.int .i64 0, .int .i64 0]) ∧ Kept w w' := by
  have hlt := ht.lt
  have _hlt0 := ht.lt0
  go_enter Tryd.func71, Tryd.ntmps71
  go_wp2_with (first | (go_at_call 62; (with_reducible refine (isZero_any 0 _ (by repeat' (first | (with_reducible assumption) | (with_reducible refine Tab.alloc ?_ _) | (with_reducible refine Tab.drew ?_) | (with_reducible refine Tab.drewN ?_ _) | (with_reducible refine Tab.setCell ?_ ?_ ?_ _) | omega | (simp; done) | (simp; omega)))).mono ?_); rintro e w1 ⟨rfl, hk1⟩; obtain ⟨hc1, hf1⟩ := bcell hk1.2; have ht1 := hk1.1; have hz1 := hk1.2.size; (try simp only [World.size_alloc] at hz1); (try simp only [sz_drew] at hz1); (try simp only [sz_drewN] at hz1); (try simp only [World.size_alloc] at hz1); (try simp only [sz_drew] at hc1 hf1); (try simp only [sz_drewN] at hc1 hf1); (try have hw1 : w.heap.size < w1.heap.size := by omega); (try have hv1 : w.heap.size + 1 < w1.heap.size := by omega); (try have hu1 : w.heap.size + 2 < w1.heap.size := by omega)))
  have hF := (((Own.new1 w _ 25 [.int .i64 0, .int .i64 0]).call hk1).put 0 (.int .i64 0)).put 1 (.int .i64 0)
  refine bodyPost_ret (ret_own rfl hF rfl Tryd.underlying25 rfl (by kernel_rfl)) rfl ?_
  exact ⟨rfl, (by repeat' (first | (with_reducible assumption) | (with_reducible exact Kept.refl ht) | (with_reducible refine Kept.alloc ?_ _) | (with_reducible refine Kept.drew ?_) | (with_reducible refine Kept.drewN ?_ _) | (with_reducible refine Kept.setCell ?_ ?_ _ ?_ ?_) | (with_reducible refine Kept.trans ?_ (by assumption)) | omega | (simp; done) | (simp; omega)))⟩

/-- What holds at each round's head of real's loop. -/
def ReRel (n : Nat) (e : Int) (v u : Value) : Prop := ∃ a E : Int, v = .int .i64 a ∧ u = .int .i64 E ∧ 1 ≤ a ∧ a ≤ n ∧ od a.toNat = od n ∧ E + (tz a.toNat : Int) = e + (tz n : Int)
theorem tz_le (n : Nat) (h : n < 340282366920938463463374607431768211456) (h0 : n ≠ 0) : tz n ≤ 38 := by
  rcases Nat.lt_or_ge 38 (tz n) with h1 | h1
  · exfalso
    have h2 := od_mul_tz n
    have h3 : 1 ≤ od n := Nat.one_le_iff_ne_zero.2 (od_ne h0)
    have h4 := p10_le (show 39 ≤ tz n by omega)
    have h5 := Nat.mul_le_mul h3 h4
    rw [h2] at h5
    simp at h5
    omega
  · exact h1
theorem real_eq {a b c d : Int} (h1 : a = c) (h2 : b = d) : Ending.returned (.agg #[.int .i64 a, .int .i64 b]) = .returned (.agg #[.int .i64 c, .int .i64 d]) := by rw [h1, h2]
theorem re_next {a : Int} (h : 1 ≤ a) (h0 : a % 10 = 0) : 1 ≤ a / 10 ∧ od (a / 10).toNat = od a.toNat ∧ ((tz a.toNat : Nat) : Int) = tz (a / 10).toNat + 1 ∧ a / 10 < a := by
  have e1 : (a / 10).toNat = a.toNat / 10 := by omega
  rw [e1, ← od_step (by omega) (by omega), tz_step (n := a.toNat) (by omega) (by omega)]
  exact ⟨by omega, rfl, by omega, by omega⟩
theorem re_stop {a : Int} (h : 1 ≤ a) (h0 : ¬ a % 10 = 0) : ((od a.toNat : Nat) : Int) = a ∧ tz a.toNat = 0 := by
  rw [od_none (by omega), tz_none (by omega)]
  exact ⟨by omega, rfl⟩

set_option maxRecDepth 100000 in
set_option maxHeartbeats 1000000 in
theorem real_any (neg : Bool) (n : Nat) (e : Int) (m : Bool) (w : World) (ht : Tab w) (h0 : n ≠ 0) (hn : n < 9223372036854775808) (he : -1000000 ≤ e) (he' : e ≤ 1000000) :
    Calls Tryd.prog 71 #[.agg #[.bool neg, .int .u64 (hiW n : Int), .int .u64 (loW n : Int), .int .i64 e, .bool m]] w fun x w' => x = .returned (.agg #[.int .i64 (sg neg (od n)), .int .i64 (e + (tz n : Int))]) ∧ Kept w w' := by
  have hlt := ht.lt
  have hlt0 := ht.lt0
  have hlo : loW n = n := by unfold loW; omega
  have hd : decide (n = 0) = false := decide_eq_false h0
  have htz := tz_le n (by omega) h0
  obtain ⟨a0, ha0⟩ : ∃ a0 : Int, a0 = (n : Int) := ⟨_, rfl⟩
  have ha1 : 1 ≤ a0 := by omega
  have ha2 : a0 ≤ 9223372036854775807 := by omega
  have hw : IntKind.i64.wrap (loW n : Int) = a0 := by rw [hlo, ha0, IntKind.wrap_i64]; omega
  have hR : Hid (ReRel n e (.int .i64 a0) (.int .i64 e)) := Lib.hid ⟨a0, e, rfl, rfl, ha1, by omega, by rw [ha0]; simp, by rw [ha0]; simp⟩
  have H0 := Lib.hid h0
  have HN := Lib.hid hn
  have HA := Lib.hid ha0
  have HT := Lib.hid htz
  clear h0 hn hlo htz ha0
  go_enter Tryd.func71, Tryd.ntmps71
  go_upto_region 3 with (first | (go_at_call 62; (with_reducible refine (isZero_any n _ (by repeat' (first | (with_reducible assumption) | (with_reducible refine Tab.alloc ?_ _) | (with_reducible refine Tab.drew ?_) | (with_reducible refine Tab.drewN ?_ _) | (with_reducible refine Tab.setCell ?_ ?_ ?_ _) | omega | (simp; done) | (simp; omega)))).mono ?_); rintro e w1 ⟨rfl, hk1⟩; obtain ⟨hc1, hf1⟩ := bcell hk1.2; have ht1 := hk1.1; have hz1 := hk1.2.size; (try simp only [World.size_alloc] at hz1); (try simp only [sz_drew] at hz1); (try simp only [sz_drewN] at hz1); (try simp only [World.size_alloc] at hz1); (try simp only [sz_drew] at hc1 hf1); (try simp only [sz_drewN] at hc1 hf1); (try have hw1 : w.heap.size < w1.heap.size := by omega); (try have hv1 : w.heap.size + 1 < w1.heap.size := by omega); (try have hu1 : w.heap.size + 2 < w1.heap.size := by omega)))
  go_quiet (fail)
  go_wp2_with fail
  have hI := (Inv.two ht 44 [.bool neg, .int .u64 (hiW n : Int), .int .u64 (loW n : Int), .int .i64 e, .bool m] 25 [.int .i64 0, .int .i64 0]).call hk1
  (have x0 : w1.cell? ⟨w.heap.size, 0, none⟩ = some (.bool neg) := (hI.own 0 _ rfl).cell 0; have x1 : w1.cell? ⟨w.heap.size, 1, none⟩ = some (.int .u64 (hiW n : Int)) := (hI.own 0 _ rfl).cell 1; have x2 : w1.cell? ⟨w.heap.size, 2, none⟩ = some (.int .u64 (loW n : Int)) := (hI.own 0 _ rfl).cell 2; have x3 : w1.cell? ⟨w.heap.size, 3, none⟩ = some (.int .i64 e) := (hI.own 0 _ rfl).cell 3; have x4 : w1.cell? ⟨w.heap.size, 4, none⟩ = some (.bool m) := (hI.own 0 _ rfl).cell 4; have xf := fun i => (hI.own 0 _ rfl).frozen i; have xl : w.heap.size < w1.heap.size := (hI.own 0 _ rfl).lt)
  (have y0 : w1.cell? ⟨w.heap.size + 1, 0, none⟩ = some (.int .i64 0) := (hI.own 1 _ rfl).cell 0; have y1 : w1.cell? ⟨w.heap.size + 1, 1, none⟩ = some (.int .i64 0) := (hI.own 1 _ rfl).cell 1; have yf := fun i => (hI.own 1 _ rfl).frozen i; have yl : w.heap.size + 1 < w1.heap.size := (hI.own 1 _ rfl).lt)
  have HY := Lib.hid (hI.own 1 _ rfl)
  have hK := hI.kept
  clear hI
  go_loop [3, 4] (fun v u => ReRel n e v u) (fun v _ => (intOf v).toNat)
  case atStart => exact hR.out
  case round =>
    obtain ⟨a, E, rfl, rfl, r1, r2, r3, r4⟩ := hrel
    have r6 : a ≤ 9223372036854775807 := by have := HN.out; omega
    have r7 := tz_le a.toNat (by omega) (by omega)
    have r8 : -2000000 ≤ E := by omega
    have r9 : E ≤ 2000000 := by have := HT.out; omega
    have R2 := Lib.hid r2
    have R3 := Lib.hid r3
    have R4 := Lib.hid r4
    clear r2 r3 r4 r7
    by_cases hm : a % 10 = 0
    · obtain ⟨n1, n2, n3, n4⟩ := re_next r1 hm
      have N2 := Lib.hid n2
      have N3 := Lib.hid n3
      have hm' : (a % 10 == 0) = true := by rw [beq_iff_eq]; exact hm
      clear hm n2 n3
      go_wp2_with fail
      go_round
      case rel => exact ⟨a / 10, E + 1, rfl, rfl, n1, by have := R2.out; omega, N2.out.trans R3.out, by have := R4.out; have := N3.out; omega⟩
      case measure => simp [intOf]; omega
    · obtain ⟨n1, n2⟩ := re_stop r1 hm
      rw [R3.out] at n1
      have hm' : (a % 10 == 0) = false := by rw [beq_eq_false_iff_ne]; exact hm
      have N1 := Lib.hid n1
      have N2 : Hid (E = e + (tz n : Int)) := Lib.hid (by have := R4.out; rw [n2] at this; omega)
      clear hm n1 n2
      cases neg
      · go_wp2_with fail
        have hF := ((HY.out.put 0 (.int .i64 a)).put 1 (.int .i64 E)).drewN nq
        refine bodyPost_ret (ret_own rfl hF rfl Tryd.underlying25 rfl (by kernel_rfl)) rfl ?_
        exact ⟨real_eq (by simp [sg, N1.out]) N2.out, (by repeat' (first | (with_reducible assumption) | (with_reducible exact Kept.refl ht) | (with_reducible refine Kept.alloc ?_ _) | (with_reducible refine Kept.drew ?_) | (with_reducible refine Kept.drewN ?_ _) | (with_reducible refine Kept.setCell ?_ ?_ _ ?_ ?_) | (with_reducible refine Kept.trans ?_ (by assumption)) | omega | (simp; done) | (simp; omega)))⟩
      · go_wp2_with fail
        have hF := ((HY.out.put 0 (.int .i64 (-a))).put 1 (.int .i64 E)).drewN nq
        refine bodyPost_ret (ret_own rfl hF rfl Tryd.underlying25 rfl (by kernel_rfl)) rfl ?_
        exact ⟨real_eq (by simp [sg, N1.out]) N2.out, (by repeat' (first | (with_reducible assumption) | (with_reducible exact Kept.refl ht) | (with_reducible refine Kept.alloc ?_ _) | (with_reducible refine Kept.drew ?_) | (with_reducible refine Kept.drewN ?_ _) | (with_reducible refine Kept.setCell ?_ ?_ _ ?_ ?_) | (with_reducible refine Kept.trans ?_ (by assumption)) | omega | (simp; done) | (simp; omega)))⟩
end Go.Proofs.YtanfhlkfmmglhaaDoor
/- That the program's rounding of a number n 10^e (and what is behind it) is rounding at the fixed scale: plain mathematics. No condition. -/
namespace Go.Proofs.YtanfhlkfmmglhaaDoor

/-- The digits of a size. -/
def pr (s : Int) : Nat := if s = -1 then 7 else if s = 0 then 15 else 18
theorem pr_pos (s : Int) : 7 ≤ pr s ∧ pr s ≤ 18 := by unfold pr; repeat (split <;> try omega)
/-- How many digits are cut off; what is left; how it is rounded. -/
def cK (p n : Nat) (e : Int) : Int := max (e + (dg n : Int) - (p : Int)) (-400) - e
def cQ (p : Nat) (how : Int) (neg : Bool) (n : Nat) (e : Int) (m : Bool) : Nat :=
  n / 10 ^ (cK p n e).toNat + if grow how neg (n / 10 ^ (cK p n e).toNat) (tl n m (cK p n e).toNat) = true then 1 else 0
/-- The number at the fixed scale. -/
def sc (n : Nat) (e : Int) : Nat := n * 10 ^ (e + 1100).toNat

theorem tl_zero (n : Nat) : tl n false 0 = 0 := by unfold tl; simp [Nat.mod_one]
theorem rep_rv {p n : Nat} {how e : Int} {neg m : Bool} (hn : n ≠ 0) (he : -1100 ≤ e) (hm : m = true → p < dg n) :
    rv p how neg (sc n e) m = cQ p how neg n e m * 10 ^ ((e + 1100).toNat + (cK p n e).toNat) := by
  unfold sc cQ
  rcases (by omega : cK p n e ≤ 0 ∨ 0 < cK p n e) with h | h
  · have hm' : m = false := by
      cases m with
      | false => rfl
      | true => have := hm rfl; unfold cK at h; omega
    subst hm'
    have h0 : (cK p n e).toNat = 0 := by omega
    rw [h0, tl_zero, grow_zero]
    rw [rv_keep]
    · simp
    · rw [lst_mul _ hn]; unfold cK at h; omega
  · rw [rv_cut]
    rw [lst_mul _ hn]
    unfold cK at *
    omega
theorem rep_ovf {p n : Nat} {how e : Int} {neg m : Bool} (hn : n ≠ 0) (he : -1100 ≤ e) (hp : 1 ≤ p) (hm : m = true → p < dg n) :
    ovf p how neg (sc n e) m = decide (¬ e + ((cK p n e).toNat : Int) + (dg (cQ p how neg n e m) : Int) ≤ 400 + (p : Int)) := by
  unfold ovf
  rw [rep_rv hn he hm]
  by_cases hq : cQ p how neg n e m = 0
  · have hz : n / 10 ^ (cK p n e).toNat = 0 := by unfold cQ at hq; exact (Nat.add_eq_zero_iff.1 hq).1
    have hlt : n < 10 ^ (cK p n e).toNat := by
      rcases Nat.lt_or_ge n (10 ^ (cK p n e).toNat) with h | h
      · exact h
      · have := Nat.div_pos h (p10 _); omega
    have hd := (dg_iff n _).2 hlt
    have hdn := dg_ne hn
    rw [hq, dg_zero, Nat.zero_mul]
    rw [decide_eq_false (by have := p10 (p + 1500); omega), decide_eq_false]
    unfold cK at *
    omega
  · have hd := dg_mul ((e + 1100).toNat + (cK p n e).toNat) hq
    have hi := dg_iff (cQ p how neg n e m * 10 ^ ((e + 1100).toNat + (cK p n e).toNat)) (p + 1500)
    rw [hd] at hi
    rw [Bool.eq_iff_iff]
    simp only [decide_eq_true_eq]
    rw [← Nat.not_lt, ← hi]
    omega
theorem fM_mul (neg : Bool) {q : Nat} (j : Nat) (h : q ≠ 0) : fM neg (q * 10 ^ j) = sg neg (od q) := by unfold fM; rw [od_mul j h]
theorem fE_mul {q : Nat} (j : Nat) (h : q ≠ 0) : fE (q * 10 ^ j) = (tz q : Int) + j - 1100 := by
  unfold fE
  rw [if_neg (Nat.mul_ne_zero h (by have := p10 j; omega)), tz_mul j h]
  omega
theorem od_zero : od 0 = 0 := by unfold od; simp
theorem fM_zero (neg : Bool) : fM neg 0 = 0 := by unfold fM sg; rw [od_zero]; simp
theorem fE_zero : fE 0 = 0 := by unfold fE; simp
/-- The result of rounding: the number in its form, and the error. -/
def rM (p : Nat) (how : Int) (neg : Bool) (V : Nat) (m : Bool) : Int := fM neg (oV p how neg V m)
def rE (p : Nat) (how : Int) (neg : Bool) (V : Nat) (m : Bool) : Int := fE (oV p how neg V m)
def rX (p : Nat) (how : Int) (neg : Bool) (V : Nat) (m : Bool) : Int := if oF p how neg V m = true then 11 else 0

theorem round_zero {p : Nat} {how e : Int} {neg : Bool} : rM p how neg (sc 0 e) false = 0 ∧ rE p how neg (sc 0 e) false = 0 ∧ rX p how neg (sc 0 e) false = 0 := by
  have h0 : sc 0 e = 0 := by unfold sc; simp
  have hr := rv_zero p how neg
  have ho : ovf p how neg 0 false = false := by unfold ovf; rw [hr]; exact decide_eq_false (by have := p10 (p + 1500); omega)
  rw [h0]
  unfold rM rE rX oV oF
  rw [ho, hr]
  simp [fM_zero, fE_zero]
theorem round_in {p n : Nat} {how e : Int} {neg m : Bool} (hn : n ≠ 0) (he : -1100 ≤ e) (hp : 1 ≤ p) (hm : m = true → p < dg n) (h : e + ((cK p n e).toNat : Int) + (dg (cQ p how neg n e m) : Int) ≤ 400 + (p : Int)) :
    rX p how neg (sc n e) m = 0 ∧ (cQ p how neg n e m = 0 → rM p how neg (sc n e) m = 0 ∧ rE p how neg (sc n e) m = 0) ∧
    (cQ p how neg n e m ≠ 0 → rM p how neg (sc n e) m = sg neg (od (cQ p how neg n e m)) ∧ rE p how neg (sc n e) m = e + ((cK p n e).toNat : Int) + (tz (cQ p how neg n e m) : Int)) := by
  have ho := rep_ovf (how := how) (neg := neg) (m := m) hn he hp hm
  rw [decide_eq_false (by omega)] at ho
  have hr := rep_rv (how := how) (neg := neg) hn he hm
  unfold rM rE rX oV oF
  rw [ho, hr]
  simp only [Bool.false_and, Bool.false_eq_true, if_false, true_and]
  refine ⟨fun h0 => ?_, fun h0 => ?_⟩
  · rw [h0, Nat.zero_mul, fM_zero, fE_zero]; exact ⟨rfl, rfl⟩
  · rw [fM_mul _ _ h0, fE_mul _ h0]
    exact ⟨rfl, by omega⟩
theorem p10ne (k : Nat) : 10 ^ k ≠ 0 := Nat.ne_of_gt (p10 k)
theorem mul_p10 {a : Nat} (h : a ≠ 0) (k : Nat) : a * 10 ^ k ≠ 0 := Nat.mul_ne_zero h (p10ne k)
theorem mst_gen (p k : Nat) (h0 : 10 ^ p - 1 ≠ 0) : (10 ^ p - 1) * 10 ^ k ≠ 0 ∧ fE ((10 ^ p - 1) * 10 ^ k) = (k : Int) - 1100 + (tz (10 ^ p - 1) : Int) ∧ ∀ neg, fM neg ((10 ^ p - 1) * 10 ^ k) = sg neg (od (10 ^ p - 1)) := by
  refine ⟨mul_p10 h0 k, ?_, fun neg => fM_mul neg k h0⟩
  rw [fE_mul k h0]
  omega
theorem mst_form (p : Nat) (h1 : 1 ≤ p) : mst p ≠ 0 ∧ fE (mst p) = ((1500 : Nat) : Int) - 1100 + (tz (10 ^ p - 1) : Int) ∧ ∀ neg, fM neg (mst p) = sg neg (od (10 ^ p - 1)) := by
  have hp := p10_lt (show 0 < p by omega)
  have h0 : 10 ^ p - 1 ≠ 0 := by simp at hp; omega
  exact mst_gen p 1500 h0
theorem round_out {p n : Nat} {how e : Int} {neg m : Bool} (hn : n ≠ 0) (he : -1100 ≤ e) (hp : 1 ≤ p) (hm : m = true → p < dg n) (h : ¬ e + ((cK p n e).toNat : Int) + (dg (cQ p how neg n e m) : Int) ≤ 400 + (p : Int)) :
    (inw how neg = false → rM p how neg (sc n e) m = 0 ∧ rE p how neg (sc n e) m = 0 ∧ rX p how neg (sc n e) m = 11) ∧
    (inw how neg = true → rM p how neg (sc n e) m = sg neg (od (10 ^ p - 1)) ∧ rE p how neg (sc n e) m = 400 + (tz (10 ^ p - 1) : Int) ∧ rX p how neg (sc n e) m = 0) := by
  have ho := rep_ovf (how := how) (neg := neg) (m := m) hn he hp hm
  rw [decide_eq_true h] at ho
  obtain ⟨a, b, c⟩ := mst_form p hp
  unfold rM rE rX oV oF
  rw [ho]
  refine ⟨fun hi => ?_, fun hi => ?_⟩
  · rw [hi]; simp [fM_zero, fE_zero]
  · rw [hi]
    simp only [Bool.true_and, Bool.not_true, Bool.false_eq_true, if_true, if_false, b, c]
    exact ⟨trivial, by omega, trivial⟩
theorem cQ_le {p n : Nat} {how e : Int} {neg m : Bool} (hp : p ≤ 18) : cQ p how neg n e m ≤ 1000000000000000000 := by
  have h : n / 10 ^ (cK p n e).toNat < 10 ^ p := by
    rw [Nat.div_lt_iff_lt_mul (p10 _), ← Nat.pow_add]
    refine Nat.lt_of_lt_of_le (lt_dg n) (p10_le ?_)
    unfold cK
    omega
  have h2 := p10_le hp
  have h3 : (10 : Nat) ^ 18 = 1000000000000000000 := by decide
  unfold cQ
  split <;> omega
end Go.Proofs.YtanfhlkfmmglhaaDoor
/- The program's tests of sizes, directions and reals. Condition: the tables hold what their initialisers lay. -/
namespace Go.Proofs.YtanfhlkfmmglhaaDoor
open Go.ChangeShapes Go.WideShapes Go.ChangeAt Go.RowKit
attribute [local go_sem ↓] Go.wp_at_zero Go.wp_at_succ

def isSz (s : Int) : Bool := decide (s = -1 ∨ s = 0 ∨ s = 1)
def isDir (how : Int) : Bool := decide (0 ≤ how ∧ how ≤ 3)
def dz (s : Int) : Int := if isSz s = true then (pr s : Int) else 0
def sx (s : Int) : Int := if isSz s = true then 0 else 1
/-- The form of a real of a size. -/
def vld (s m e : Int) : Bool :=
  isSz s && (if m = 0 then decide (e = 0) else decide (m % 10 ≠ 0 ∧ dg (mag m) ≤ pr s ∧ -400 ≤ e ∧ e ≤ 400 + (pr s : Int) - (dg (mag m) : Int)))
theorem sz_or (s : Int) : (isSz s = true ∧ (s = -1 ∨ s = 0 ∨ s = 1)) ∨ (isSz s = false ∧ (s < -1 ∨ 1 < s)) := by
  rcases (by omega : (s = -1 ∨ s = 0 ∨ s = 1) ∨ (s < -1 ∨ 1 < s)) with h | h
  · exact Or.inl ⟨decide_eq_true h, h⟩
  · exact Or.inr ⟨decide_eq_false (by omega), h⟩

theorem Digits_any (s : Int) (w : World) (ht : Tab w) : Calls Tryd.prog 59 #[.int .i64 s] w fun e w' => e = .returned (.tuple #[.int .i64 (dz s), .int .i64 (sx s)]) ∧ w = w' := by
  have hlt := ht.lt
  have hlt0 := ht.lt0
  unfold dz sx
  rcases sz_or s with ⟨h, h1⟩ | ⟨h, h1⟩
  · rw [h]
    simp only [if_true]
    have p0 := ht.p0
    have p1 := ht.p1
    have p2 := ht.p2
    rcases h1 with rfl | rfl | rfl
    · rw [show (pr (-1) : Int) = 7 by decide]
      go_enter Tryd.func59, Tryd.ntmps59
      go_wp2
      go_returns
      exact ⟨rfl, rfl⟩
    · rw [show (pr 0 : Int) = 15 by decide]
      go_enter Tryd.func59, Tryd.ntmps59
      go_wp2
      go_returns
      exact ⟨rfl, rfl⟩
    · rw [show (pr 1 : Int) = 18 by decide]
      go_enter Tryd.func59, Tryd.ntmps59
      go_wp2
      go_returns
      exact ⟨rfl, rfl⟩
  · rw [h]
    simp only [Bool.false_eq_true, if_false]
    rcases h1 with h1 | h1
    · go_enter Tryd.func59, Tryd.ntmps59
      go_wp2
      go_returns
      exact ⟨rfl, rfl⟩
    · have h2 : ¬ s < -1 := by omega
      go_enter Tryd.func59, Tryd.ntmps59
      go_wp2
      go_returns
      exact ⟨rfl, rfl⟩
theorem isDirection_any (how : Int) (w : World) : Calls Tryd.prog 60 #[.int .i64 how] w fun e w' => e = .returned (.bool (isDir how)) ∧ w = w' := by
  rcases (by omega : how < 0 ∨ (0 ≤ how ∧ how ≤ 3) ∨ 3 < how) with h | ⟨h, h'⟩ | h
  · have e : isDir how = false := decide_eq_false (by omega)
    rw [e]
    have h2 : ¬ 0 ≤ how := by omega
    go_enter Tryd.func60, Tryd.ntmps60
    go_wp2
    go_returns
    exact ⟨rfl, rfl⟩
  · have e : isDir how = true := decide_eq_true (by omega)
    rw [e]
    go_enter Tryd.func60, Tryd.ntmps60
    go_wp2
    go_returns
    exact ⟨rfl, rfl⟩
  · have e : isDir how = false := decide_eq_false (by omega)
    rw [e]
    have h2 : ¬ how ≤ 3 := by omega
    have h3 : 0 ≤ how := by omega
    go_enter Tryd.func60, Tryd.ntmps60
    go_wp2
    go_returns
    exact ⟨rfl, rfl⟩

theorem tmod10 (m : Int) : (Int.tmod m 10 != 0) = decide (m % 10 ≠ 0) := by
  have h : m.tmod 10 = 0 ↔ m % 10 = 0 := ⟨fun h => Int.emod_eq_zero_of_dvd (Int.dvd_of_tmod_eq_zero h), fun h => Int.tmod_eq_zero_of_dvd (Int.dvd_of_emod_eq_zero h)⟩
  rw [Bool.eq_iff_iff]
  simp [h]

set_option maxHeartbeats 2000000 in
theorem Valid_any (s m e : Int) (w : World) (ht : Tab w) (lo : -9223372036854775808 ≤ m) (hi : m ≤ 9223372036854775807) :
    Calls Tryd.prog 61 #[.int .i64 s, .agg #[.int .i64 m, .int .i64 e]] w fun x w' => x = .returned (.bool (vld s m e)) ∧ Kept w w' := by
  have hlt := ht.lt
  have hlt0 := ht.lt0
  have hD := fun w ht => Digits_any s w ht
  unfold dz sx at hD
  unfold vld
  rcases sz_or s with ⟨h, h1⟩ | ⟨h, h1⟩
  · rw [h] at hD ⊢
    simp only [if_true] at hD
    obtain ⟨hp7, hp18⟩ := pr_pos s
    have hdg : dg (mag m) ≤ 19 := (dg_iff _ 19).2 (by unfold mag; simp; omega)
    have hmg : mag m < 18446744073709551616 := by unfold mag; omega
    have hdi := fun w ht => digitsOf_any (mag m) w ht hmg
    rw [Bool.true_and]
    have e0 : decide (m % 10 ≠ 0 ∧ dg (mag m) ≤ pr s ∧ -400 ≤ e ∧ e ≤ 400 + (pr s : Int) - (dg (mag m) : Int)) = decide (m % 10 ≠ 0 ∧ (dg (mag m) : Int) ≤ (pr s : Int) ∧ -400 ≤ e ∧ e ≤ 400 + (pr s : Int) - (dg (mag m) : Int)) := by
      congr 1; simp
    rw [e0]
    obtain ⟨P, hP⟩ : ∃ P : Int, P = (pr s : Int) := ⟨_, rfl⟩
    obtain ⟨D, hDg⟩ : ∃ D : Int, D = (dg (mag m) : Int) := ⟨_, rfl⟩
    rw [← hP] at hD ⊢
    rw [← hDg] at hdi ⊢
    have hP1 : 7 ≤ P := by omega
    have hP2 : P ≤ 18 := by omega
    have hD1 : 0 ≤ D := by omega
    have hD2 : D ≤ 19 := by omega
    have HD := Lib.hid hD
    have HDI := Lib.hid hdi
    clear hD hdi hP hDg e0 hdg hmg hp7 hp18
    by_cases hm : m = 0
    · subst hm
      by_cases he : e = 0
      · subst he
        go_enter Tryd.func61, Tryd.ntmps61
        go_wp2_with (first | (go_at_call 59; (with_reducible refine (HD.out _ (by repeat' (first | (with_reducible assumption) | (with_reducible refine Tab.alloc ?_ _) | (with_reducible refine Tab.drew ?_) | (with_reducible refine Tab.drewN ?_ _) | (with_reducible refine Tab.setCell ?_ ?_ ?_ _) | omega | (simp; done) | (simp; omega)))).mono ?_); rintro e w' ⟨rfl, rfl⟩))
        go_returns
        exact ⟨rfl, (by repeat' (first | (with_reducible assumption) | (with_reducible exact Kept.refl ht) | (with_reducible refine Kept.alloc ?_ _) | (with_reducible refine Kept.drew ?_) | (with_reducible refine Kept.drewN ?_ _) | (with_reducible refine Kept.setCell ?_ ?_ _ ?_ ?_) | (with_reducible refine Kept.trans ?_ (by assumption)) | omega | (simp; done) | (simp; omega)))⟩
      · have he' : (e == 0) = false := by rw [beq_eq_false_iff_ne]; exact he
        rw [if_pos rfl, decide_eq_false he]
        go_enter Tryd.func61, Tryd.ntmps61
        go_wp2_with (first | (go_at_call 59; (with_reducible refine (HD.out _ (by repeat' (first | (with_reducible assumption) | (with_reducible refine Tab.alloc ?_ _) | (with_reducible refine Tab.drew ?_) | (with_reducible refine Tab.drewN ?_ _) | (with_reducible refine Tab.setCell ?_ ?_ ?_ _) | omega | (simp; done) | (simp; omega)))).mono ?_); rintro e w' ⟨rfl, rfl⟩))
        go_returns
        exact ⟨rfl, (by repeat' (first | (with_reducible assumption) | (with_reducible exact Kept.refl ht) | (with_reducible refine Kept.alloc ?_ _) | (with_reducible refine Kept.drew ?_) | (with_reducible refine Kept.drewN ?_ _) | (with_reducible refine Kept.setCell ?_ ?_ _ ?_ ?_) | (with_reducible refine Kept.trans ?_ (by assumption)) | omega | (simp; done) | (simp; omega)))⟩
    · have hm' : (m == 0) = false := by rw [beq_eq_false_iff_ne]; exact hm
      rw [if_neg hm]
      have ht10 := tmod10 m
      by_cases c1 : m % 10 = 0
      · rw [decide_eq_false (by omega)] at ht10 ⊢
        go_enter Tryd.func61, Tryd.ntmps61
        go_wp2_with (first | (go_at_call 59; (with_reducible refine (HD.out _ (by repeat' (first | (with_reducible assumption) | (with_reducible refine Tab.alloc ?_ _) | (with_reducible refine Tab.drew ?_) | (with_reducible refine Tab.drewN ?_ _) | (with_reducible refine Tab.setCell ?_ ?_ ?_ _) | omega | (simp; done) | (simp; omega)))).mono ?_); rintro e w' ⟨rfl, rfl⟩) | (go_at_call 67; (with_reducible refine (magnitude_any m _ lo hi).mono ?_); rintro e w' ⟨rfl, rfl⟩) | (go_at_call 86; (with_reducible refine (HDI.out _ (by repeat' (first | (with_reducible assumption) | (with_reducible refine Tab.alloc ?_ _) | (with_reducible refine Tab.drew ?_) | (with_reducible refine Tab.drewN ?_ _) | (with_reducible refine Tab.setCell ?_ ?_ ?_ _) | omega | (simp; done) | (simp; omega)))).mono ?_); rintro e w' ⟨rfl, rfl⟩))
        go_returns
        exact ⟨by simp, (by repeat' (first | (with_reducible assumption) | (with_reducible exact Kept.refl ht) | (with_reducible refine Kept.alloc ?_ _) | (with_reducible refine Kept.drew ?_) | (with_reducible refine Kept.drewN ?_ _) | (with_reducible refine Kept.setCell ?_ ?_ _ ?_ ?_) | (with_reducible refine Kept.trans ?_ (by assumption)) | omega | (simp; done) | (simp; omega)))⟩
      · rw [decide_eq_true c1] at ht10
        by_cases c2 : D ≤ P
        · by_cases c3 : -400 ≤ e
          · by_cases c4 : e ≤ 400 + P - D
            · rw [decide_eq_true ⟨c1, c2, c3, c4⟩]
              clear c1
              go_enter Tryd.func61, Tryd.ntmps61
              go_wp2_with (first | (go_at_call 59; (with_reducible refine (HD.out _ (by repeat' (first | (with_reducible assumption) | (with_reducible refine Tab.alloc ?_ _) | (with_reducible refine Tab.drew ?_) | (with_reducible refine Tab.drewN ?_ _) | (with_reducible refine Tab.setCell ?_ ?_ ?_ _) | omega | (simp; done) | (simp; omega)))).mono ?_); rintro e w' ⟨rfl, rfl⟩) | (go_at_call 67; (with_reducible refine (magnitude_any m _ lo hi).mono ?_); rintro e w' ⟨rfl, rfl⟩) | (go_at_call 86; (with_reducible refine (HDI.out _ (by repeat' (first | (with_reducible assumption) | (with_reducible refine Tab.alloc ?_ _) | (with_reducible refine Tab.drew ?_) | (with_reducible refine Tab.drewN ?_ _) | (with_reducible refine Tab.setCell ?_ ?_ ?_ _) | omega | (simp; done) | (simp; omega)))).mono ?_); rintro e w' ⟨rfl, rfl⟩))
              go_returns
              exact ⟨rfl, (by repeat' (first | (with_reducible assumption) | (with_reducible exact Kept.refl ht) | (with_reducible refine Kept.alloc ?_ _) | (with_reducible refine Kept.drew ?_) | (with_reducible refine Kept.drewN ?_ _) | (with_reducible refine Kept.setCell ?_ ?_ _ ?_ ?_) | (with_reducible refine Kept.trans ?_ (by assumption)) | omega | (simp; done) | (simp; omega)))⟩
            · rw [decide_eq_false (by omega)]
              clear c1
              go_enter Tryd.func61, Tryd.ntmps61
              go_wp2_with (first | (go_at_call 59; (with_reducible refine (HD.out _ (by repeat' (first | (with_reducible assumption) | (with_reducible refine Tab.alloc ?_ _) | (with_reducible refine Tab.drew ?_) | (with_reducible refine Tab.drewN ?_ _) | (with_reducible refine Tab.setCell ?_ ?_ ?_ _) | omega | (simp; done) | (simp; omega)))).mono ?_); rintro e w' ⟨rfl, rfl⟩) | (go_at_call 67; (with_reducible refine (magnitude_any m _ lo hi).mono ?_); rintro e w' ⟨rfl, rfl⟩) | (go_at_call 86; (with_reducible refine (HDI.out _ (by repeat' (first | (with_reducible assumption) | (with_reducible refine Tab.alloc ?_ _) | (with_reducible refine Tab.drew ?_) | (with_reducible refine Tab.drewN ?_ _) | (with_reducible refine Tab.setCell ?_ ?_ ?_ _) | omega | (simp; done) | (simp; omega)))).mono ?_); rintro e w' ⟨rfl, rfl⟩))
              go_returns
              exact ⟨by simp; omega, (by repeat' (first | (with_reducible assumption) | (with_reducible exact Kept.refl ht) | (with_reducible refine Kept.alloc ?_ _) | (with_reducible refine Kept.drew ?_) | (with_reducible refine Kept.drewN ?_ _) | (with_reducible refine Kept.setCell ?_ ?_ _ ?_ ?_) | (with_reducible refine Kept.trans ?_ (by assumption)) | omega | (simp; done) | (simp; omega)))⟩
          · rw [decide_eq_false (by omega)]
            clear c1
            go_enter Tryd.func61, Tryd.ntmps61
            go_wp2_with (first | (go_at_call 59; (with_reducible refine (HD.out _ (by repeat' (first | (with_reducible assumption) | (with_reducible refine Tab.alloc ?_ _) | (with_reducible refine Tab.drew ?_) | (with_reducible refine Tab.drewN ?_ _) | (with_reducible refine Tab.setCell ?_ ?_ ?_ _) | omega | (simp; done) | (simp; omega)))).mono ?_); rintro e w' ⟨rfl, rfl⟩) | (go_at_call 67; (with_reducible refine (magnitude_any m _ lo hi).mono ?_); rintro e w' ⟨rfl, rfl⟩) | (go_at_call 86; (with_reducible refine (HDI.out _ (by repeat' (first | (with_reducible assumption) | (with_reducible refine Tab.alloc ?_ _) | (with_reducible refine Tab.drew ?_) | (with_reducible refine Tab.drewN ?_ _) | (with_reducible refine Tab.setCell ?_ ?_ ?_ _) | omega | (simp; done) | (simp; omega)))).mono ?_); rintro e w' ⟨rfl, rfl⟩))
            go_returns
            exact ⟨rfl, (by repeat' (first | (with_reducible assumption) | (with_reducible exact Kept.refl ht) | (with_reducible refine Kept.alloc ?_ _) | (with_reducible refine Kept.drew ?_) | (with_reducible refine Kept.drewN ?_ _) | (with_reducible refine Kept.setCell ?_ ?_ _ ?_ ?_) | (with_reducible refine Kept.trans ?_ (by assumption)) | omega | (simp; done) | (simp; omega)))⟩
        · rw [decide_eq_false (by omega)]
          clear c1
          go_enter Tryd.func61, Tryd.ntmps61
          go_wp2_with (first | (go_at_call 59; (with_reducible refine (HD.out _ (by repeat' (first | (with_reducible assumption) | (with_reducible refine Tab.alloc ?_ _) | (with_reducible refine Tab.drew ?_) | (with_reducible refine Tab.drewN ?_ _) | (with_reducible refine Tab.setCell ?_ ?_ ?_ _) | omega | (simp; done) | (simp; omega)))).mono ?_); rintro e w' ⟨rfl, rfl⟩) | (go_at_call 67; (with_reducible refine (magnitude_any m _ lo hi).mono ?_); rintro e w' ⟨rfl, rfl⟩) | (go_at_call 86; (with_reducible refine (HDI.out _ (by repeat' (first | (with_reducible assumption) | (with_reducible refine Tab.alloc ?_ _) | (with_reducible refine Tab.drew ?_) | (with_reducible refine Tab.drewN ?_ _) | (with_reducible refine Tab.setCell ?_ ?_ ?_ _) | omega | (simp; done) | (simp; omega)))).mono ?_); rintro e w' ⟨rfl, rfl⟩))
          go_returns
          exact ⟨rfl, (by repeat' (first | (with_reducible assumption) | (with_reducible exact Kept.refl ht) | (with_reducible refine Kept.alloc ?_ _) | (with_reducible refine Kept.drew ?_) | (with_reducible refine Kept.drewN ?_ _) | (with_reducible refine Kept.setCell ?_ ?_ _ ?_ ?_) | (with_reducible refine Kept.trans ?_ (by assumption)) | omega | (simp; done) | (simp; omega)))⟩
  · rw [h] at hD ⊢
    simp only [Bool.false_eq_true, if_false] at hD
    rw [Bool.false_and]
    have HD := Lib.hid hD
    clear hD
    go_enter Tryd.func61, Tryd.ntmps61
    go_wp2_with (first | (go_at_call 59; (with_reducible refine (HD.out _ (by repeat' (first | (with_reducible assumption) | (with_reducible refine Tab.alloc ?_ _) | (with_reducible refine Tab.drew ?_) | (with_reducible refine Tab.drewN ?_ _) | (with_reducible refine Tab.setCell ?_ ?_ ?_ _) | omega | (simp; done) | (simp; omega)))).mono ?_); rintro e w' ⟨rfl, rfl⟩))
    go_returns
    exact ⟨rfl, (by repeat' (first | (with_reducible assumption) | (with_reducible exact Kept.refl ht) | (with_reducible refine Kept.alloc ?_ _) | (with_reducible refine Kept.drew ?_) | (with_reducible refine Kept.drewN ?_ _) | (with_reducible refine Kept.setCell ?_ ?_ _ ?_ ?_) | (with_reducible refine Kept.trans ?_ (by assumption)) | omega | (simp; done) | (simp; omega)))⟩
end Go.Proofs.YtanfhlkfmmglhaaDoor
/- The program's check of a size, a direction and operands. Conditions: the tables hold what their initialisers lay; the operands lie in a block. -/
namespace Go.Proofs.YtanfhlkfmmglhaaDoor
open Go.ChangeShapes Go.WideShapes Go.ChangeAt Go.RowKit
attribute [local go_sem ↓] Go.wp_at_zero Go.wp_at_succ

/-- The error of an operation's size or direction, or else of its operands. -/
def ckO (s : Int) (ops : List (Int × Int)) : Int := if (ops.all fun x => vld s x.1 x.2) = true then 0 else 11
theorem ckO_no {s : Int} {ops : List (Int × Int)} {k : Nat} {m e : Int} (hx : ops[k]? = some (m, e)) (h : vld s m e = false) : ckO s ops = 11 := by
  unfold ckO
  rw [if_neg]
  intro ha
  have := List.all_eq_true.1 ha (m, e) (List.mem_of_getElem? hx)
  simp only at this
  rw [h] at this
  cases this
theorem all_next {s : Int} {ops : List (Int × Int)} {k : Nat} {m e : Int} (hx : ops[k]? = some (m, e)) (h : vld s m e = true) (ha : ((ops.take k).all fun x => vld s x.1 x.2) = true) : ((ops.take (k + 1)).all fun x => vld s x.1 x.2) = true := by
  have hl : k < ops.length := by
    rcases Nat.lt_or_ge k ops.length with h | h
    · exact h
    · rw [List.getElem?_eq_none h] at hx; cases hx
  rw [List.take_succ_eq_append_getElem hl, List.all_append, ha, Bool.true_and]
  rw [List.getElem?_eq_getElem hl] at hx
  rw [Option.some.inj hx]
  simp [h]
def ckR (s how : Int) (ops : List (Int × Int)) : Int := if (isSz s && isDir how) = true then ckO s ops else 1

theorem check_bad (s how : Int) (v : Value) (w : World) (ht : Tab w) (h : (isSz s && isDir how) = false) : Calls Tryd.prog 33 #[.int .i64 s, .int .i64 how, v] w fun e w' => e = .returned (.int .i64 1) ∧ Kept w w' := by
  have hlt := ht.lt
  have hlt0 := ht.lt0
  have hD := fun w ht => Digits_any s w ht
  unfold dz sx at hD
  cases h1 : isSz s
  · rw [h1] at hD
    simp only [Bool.false_eq_true, if_false] at hD
    have HD := Lib.hid hD
    clear hD h h1
    go_enter Tryd.func33, Tryd.ntmps33
    go_wp2_with (first | (go_at_call 59; (with_reducible refine (HD.out _ (by repeat' (first | (with_reducible assumption) | (with_reducible refine Tab.alloc ?_ _) | (with_reducible refine Tab.drew ?_) | (with_reducible refine Tab.drewN ?_ _) | (with_reducible refine Tab.setCell ?_ ?_ ?_ _) | omega | (simp; done) | (simp; omega)))).mono ?_); rintro e w' ⟨rfl, rfl⟩))
    go_returns
    exact ⟨rfl, (by repeat' (first | (with_reducible assumption) | (with_reducible exact Kept.refl ht) | (with_reducible refine Kept.alloc ?_ _) | (with_reducible refine Kept.drew ?_) | (with_reducible refine Kept.drewN ?_ _) | (with_reducible refine Kept.setCell ?_ ?_ _ ?_ ?_) | (with_reducible refine Kept.trans ?_ (by assumption)) | omega | (simp; done) | (simp; omega)))⟩
  · rw [h1] at hD h
    rw [Bool.true_and] at h
    simp only [if_true] at hD
    have HD := Lib.hid hD
    clear hD h1
    go_enter Tryd.func33, Tryd.ntmps33
    go_wp2_with (first | (go_at_call 59; (with_reducible refine (HD.out _ (by repeat' (first | (with_reducible assumption) | (with_reducible refine Tab.alloc ?_ _) | (with_reducible refine Tab.drew ?_) | (with_reducible refine Tab.drewN ?_ _) | (with_reducible refine Tab.setCell ?_ ?_ ?_ _) | omega | (simp; done) | (simp; omega)))).mono ?_); rintro e w' ⟨rfl, rfl⟩) | (go_at_call 60; (with_reducible refine (isDirection_any how _).mono ?_); rintro e w' ⟨rfl, rfl⟩))
    go_returns
    exact ⟨rfl, (by repeat' (first | (with_reducible assumption) | (with_reducible exact Kept.refl ht) | (with_reducible refine Kept.alloc ?_ _) | (with_reducible refine Kept.drew ?_) | (with_reducible refine Kept.drewN ?_ _) | (with_reducible refine Kept.setCell ?_ ?_ _ ?_ ?_) | (with_reducible refine Kept.trans ?_ (by assumption)) | omega | (simp; done) | (simp; omega)))⟩

/-- What holds at each round's head. -/
def CkRel (s : Int) (ops : List (Int × Int)) (w : World) (v : Value) (wr : World) : Prop := ∃ k : Nat, v = .int .i64 (k : Int) ∧ k ≤ ops.length ∧ ((ops.take k).all fun x => vld s x.1 x.2) = true ∧ Kept w wr

set_option maxHeartbeats 2000000 in
theorem check_good (s how : Int) (ops : List (Int × Int)) (b cap : Nat) (w : World) (ht : Tab w) (h : (isSz s && isDir how) = true) (hb : b < w.heap.size) (hl : ops.length ≤ 1000)
    (hc : ∀ k x, ops[k]? = some x → w.cell? ⟨b, 2 * k, none⟩ = some (.int .i64 x.1) ∧ w.cell? ⟨b, 2 * k + 1, none⟩ = some (.int .i64 x.2) ∧ -9223372036854775808 ≤ x.1 ∧ x.1 ≤ 9223372036854775807) :
    Calls Tryd.prog 33 #[.int .i64 s, .int .i64 how, .slice (some ⟨b, 0, none⟩) ops.length cap] w fun e w' => e = .returned (.int .i64 (ckO s ops)) ∧ Kept w w' := by
  have hlt := ht.lt
  have hlt0 := ht.lt0
  rw [Bool.and_eq_true] at h
  obtain ⟨h1, h2⟩ := h
  have hD := fun w ht => Digits_any s w ht
  unfold dz sx at hD
  rw [h1] at hD
  simp only [if_true] at hD
  have HD := Lib.hid hD
  have HC := Lib.hid hc
  clear hD hc h1
  go_enter Tryd.func33, Tryd.ntmps33
  go_wp2_with (first | (go_at_call 59; (with_reducible refine (HD.out _ (by repeat' (first | (with_reducible assumption) | (with_reducible refine Tab.alloc ?_ _) | (with_reducible refine Tab.drew ?_) | (with_reducible refine Tab.drewN ?_ _) | (with_reducible refine Tab.setCell ?_ ?_ ?_ _) | omega | (simp; done) | (simp; omega)))).mono ?_); rintro e w' ⟨rfl, rfl⟩) | (go_at_call 60; (with_reducible refine (isDirection_any how _).mono ?_); rintro e w' ⟨rfl, rfl⟩))
  go_loopw [25] (CkRel s ops w) (fun v _ => ops.length - (intOf v).toNat)
  case atStart => exact ⟨0, rfl, Nat.zero_le _, by simp, Kept.refl ht⟩
  case round =>
    obtain ⟨k, rfl, hk, ha, hK⟩ := hrel
    have ht' := hK.1
    have hg := ht'.lt
    have hg0 := ht'.lt0
    have hz := hK.2.size
    have HA := Lib.hid ha
    clear ha
    by_cases hkl : k < ops.length
    · obtain ⟨x, hx⟩ : ∃ x, ops[k]? = some x := ⟨_, List.getElem?_eq_getElem hkl⟩
      obtain ⟨a1, a2, a3, a4⟩ := HC.out k x hx
      obtain ⟨m, e⟩ := x
      have c1 : wr.cell? ⟨b, k * 2, none⟩ = some (.int .i64 m) := by rw [Nat.mul_comm]; exact (hK.2.cell hb).trans a1
      have c2 : wr.cell? ⟨b, k * 2 + 1, none⟩ = some (.int .i64 e) := by rw [Nat.mul_comm]; exact (hK.2.cell hb).trans a2
      have hbw : b < wr.heap.size := by omega
      have HV := Lib.hid (fun w ht => Valid_any s m e w ht a3 a4)
      have HX := Lib.hid hx
      clear a1 a2 a3 a4 hx
      cases hv : vld s m e
      · have HO := Lib.hid (ckO_no HX.out hv)
        go_wp2_with (first | (go_at_call 61; (with_reducible refine (HV.out _ (by repeat' (first | (with_reducible assumption) | (with_reducible refine Tab.alloc ?_ _) | (with_reducible refine Tab.drew ?_) | (with_reducible refine Tab.drewN ?_ _) | (with_reducible refine Tab.setCell ?_ ?_ ?_ _) | omega | (simp; done) | (simp; omega)))).mono ?_); rintro e w1 ⟨rfl, hk1⟩; obtain ⟨hc1, hf1⟩ := bcell hk1.2; have ht1 := hk1.1; have hz1 := hk1.2.size; (try simp only [World.size_alloc] at hz1); (try simp only [sz_drew] at hz1); (try simp only [sz_drewN] at hz1); (try simp only [World.size_alloc] at hz1); (try simp only [sz_drew] at hc1 hf1); (try simp only [sz_drewN] at hc1 hf1); (try have hw1 : w.heap.size < w1.heap.size := by omega); (try have hv1 : w.heap.size + 1 < w1.heap.size := by omega); (try have hu1 : w.heap.size + 2 < w1.heap.size := by omega)))
        go_returns
        exact ⟨by rw [HO.out]; rfl, (by repeat' (first | (with_reducible assumption) | (with_reducible exact Kept.refl ht) | (with_reducible refine Kept.alloc ?_ _) | (with_reducible refine Kept.drew ?_) | (with_reducible refine Kept.drewN ?_ _) | (with_reducible refine Kept.setCell ?_ ?_ _ ?_ ?_) | (with_reducible refine Kept.trans ?_ (by assumption)) | omega | (simp; done) | (simp; omega)))⟩
      · have HN := Lib.hid (all_next HX.out hv HA.out)
        go_wp2_with (first | (go_at_call 61; (with_reducible refine (HV.out _ (by repeat' (first | (with_reducible assumption) | (with_reducible refine Tab.alloc ?_ _) | (with_reducible refine Tab.drew ?_) | (with_reducible refine Tab.drewN ?_ _) | (with_reducible refine Tab.setCell ?_ ?_ ?_ _) | omega | (simp; done) | (simp; omega)))).mono ?_); rintro e w1 ⟨rfl, hk1⟩; obtain ⟨hc1, hf1⟩ := bcell hk1.2; have ht1 := hk1.1; have hz1 := hk1.2.size; (try simp only [World.size_alloc] at hz1); (try simp only [sz_drew] at hz1); (try simp only [sz_drewN] at hz1); (try simp only [World.size_alloc] at hz1); (try simp only [sz_drew] at hc1 hf1); (try simp only [sz_drewN] at hc1 hf1); (try have hw1 : w.heap.size < w1.heap.size := by omega); (try have hv1 : w.heap.size + 1 < w1.heap.size := by omega); (try have hu1 : w.heap.size + 2 < w1.heap.size := by omega)))
        go_roundw
        case rel => exact ⟨k + 1, by go_num, by omega, HN.out, (by repeat' (first | (with_reducible assumption) | (with_reducible exact Kept.refl ht) | (with_reducible refine Kept.alloc ?_ _) | (with_reducible refine Kept.drew ?_) | (with_reducible refine Kept.drewN ?_ _) | (with_reducible refine Kept.setCell ?_ ?_ _ ?_ ?_) | (with_reducible refine Kept.trans ?_ (by assumption)) | omega | (simp; done) | (simp; omega)))⟩
        case measure => simp [intOf]; omega
    · have HO : Hid (ckO s ops = 0) := Lib.hid (by
        have := HA.out
        rw [List.take_of_length_le (by omega)] at this
        unfold ckO
        rw [if_pos this])
      go_wp2_with fail
      go_returns
      exact ⟨by rw [HO.out]; rfl, (by repeat' (first | (with_reducible assumption) | (with_reducible exact Kept.refl ht) | (with_reducible refine Kept.alloc ?_ _) | (with_reducible refine Kept.drew ?_) | (with_reducible refine Kept.drewN ?_ _) | (with_reducible refine Kept.setCell ?_ ?_ _ ?_ ?_) | (with_reducible refine Kept.trans ?_ (by assumption)) | omega | (simp; done) | (simp; omega)))⟩
theorem vld_facts {s m e : Int} (h : vld s m e = true) : (s = -1 ∨ s = 0 ∨ s = 1) ∧ mag m < 1000000000000000000 ∧ -400 ≤ e ∧ e ≤ 418 ∧ -1000000000000000000 < m ∧ m < 1000000000000000000 := by
  unfold vld at h
  rw [Bool.and_eq_true] at h
  have hs := of_decide_eq_true h.1
  have hp := pr_pos s
  refine ⟨hs, ?_⟩
  by_cases hm : m = 0
  · subst hm
    have h2 := h.2
    rw [if_pos rfl] at h2
    have := of_decide_eq_true h2
    unfold mag
    omega
  · have h2 := h.2
    rw [if_neg hm] at h2
    obtain ⟨a, b, c, d⟩ := of_decide_eq_true h2
    have hl := (dg_iff (mag m) 18).1 (by omega)
    have e18 : (10 : Nat) ^ 18 = 1000000000000000000 := by decide
    rw [e18] at hl
    unfold mag at hl
    refine ⟨hl, c, by omega, by omega, by omega⟩
theorem ck_facts {s how a e b f : Int} (h : ckR s how [(a, e), (b, f)] = 0) : isDir how = true ∧ vld s a e = true ∧ vld s b f = true := by
  unfold ckR at h
  cases hg : (isSz s && isDir how)
  · rw [hg] at h; simp at h
  · rw [hg] at h
    simp only [if_true] at h
    rw [Bool.and_eq_true] at hg
    refine ⟨hg.2, ?_⟩
    unfold ckO at h
    by_cases hv : ([(a, e), (b, f)].all fun x => vld s x.1 x.2) = true
    · simpa using hv
    · rw [if_neg hv] at h; omega

theorem reals_pack {w w' : World} {a e b f : Int} (h : Inv w [(w.heap.size, 25, [.int .i64 a, .int .i64 e]), (w.heap.size + 1, 25, [.int .i64 b, .int .i64 f])] w') :
    Inv w [(w.heap.size, 25, [.int .i64 a, .int .i64 e]), (w.heap.size + 1, 25, [.int .i64 b, .int .i64 f])] w' ∧ Tab w' ∧ w'.cell? ⟨w.heap.size, 0, none⟩ = some (.int .i64 a) ∧ w'.cell? ⟨w.heap.size, 1, none⟩ = some (.int .i64 e) ∧ w'.cell? ⟨w.heap.size + 1, 0, none⟩ = some (.int .i64 b) ∧ w'.cell? ⟨w.heap.size + 1, 1, none⟩ = some (.int .i64 f) :=
  ⟨h, h.kept.1, (h.own 0 _ rfl).cell 0, (h.own 0 _ rfl).cell 1, (h.own 1 _ rfl).cell 0, (h.own 1 _ rfl).cell 1⟩

end Go.Proofs.YtanfhlkfmmglhaaDoor
/- The results of rounding are valid, and what number they are: plain mathematics. No condition. -/
namespace Go.Proofs.YtanfhlkfmmglhaaDoor

theorem sg_mag (neg : Bool) (n : Nat) : mag (sg neg n) = n := by unfold mag sg; split <;> omega
theorem sg_ne (neg : Bool) {n : Nat} (h : n ≠ 0) : sg neg n ≠ 0 := by unfold sg; split <;> omega
theorem sg_mod (neg : Bool) {n : Nat} (h : n % 10 ≠ 0) : sg neg n % 10 ≠ 0 := by unfold sg; split <;> omega
theorem sg_lt (neg : Bool) {n : Nat} (h : n ≠ 0) : decide (sg neg n < 0) = neg := by
  cases neg
  · exact decide_eq_false (by unfold sg; simp)
  · exact decide_eq_true (by unfold sg; simp; omega)

/-- A number at the fixed scale that a real of p digits is. -/
def Fits (p U : Nat) : Prop := U < 10 ^ (p + 1500) ∧ ∃ q k, U = q * 10 ^ k ∧ q ≤ 10 ^ p ∧ 700 ≤ k
theorem zero_any (k : Nat) : 0 = 0 * 10 ^ k := (Nat.zero_mul _).symm
theorem fits_zero (p : Nat) : Fits p 0 := ⟨p10 _, 0, 700, zero_any 700, Nat.zero_le _, Nat.le_refl _⟩

theorem od_le {q p : Nat} (h0 : q ≠ 0) (hp : 1 ≤ p) (h : q ≤ 10 ^ p) : dg (od q) ≤ p := by
  rcases Nat.lt_or_ge q (10 ^ p) with h1 | h1
  · have h2 := (dg_iff q p).2 h1
    have h3 := od_mul_tz q
    have h4 : dg (od q * 10 ^ tz q) = dg (od q) + tz q := dg_mul _ (od_ne h0)
    rw [h3] at h4
    omega
  · have h2 : q = 1 * 10 ^ p := by omega
    rw [h2, od_mul p (by omega), od_none (by omega)]
    have : dg 1 = 1 := dg_eq (k := 0) (by simp) (by omega)
    omega

theorem form_vld {s : Int} {neg : Bool} {U : Nat} (hs : isSz s = true) (h : Fits (pr s) U) : vld s (fM neg U) (fE U) = true := by
  unfold vld
  rw [hs, Bool.true_and]
  by_cases h0 : U = 0
  · subst h0
    rw [fM_zero, fE_zero]; simp
  · obtain ⟨hU, q, k, he, hq, hk⟩ := h
    have hp := pr_pos s
    have hq0 : q ≠ 0 := by rintro rfl; simp at he; exact h0 he
    have hn : fM neg U ≠ 0 := sg_ne neg (od_ne h0)
    rw [if_neg hn]
    apply decide_eq_true
    have hm : mag (fM neg U) = od U := sg_mag _ _
    have ho : od U = od q := by rw [he, od_mul k hq0]
    have ht : tz U = tz q + k := by rw [he, tz_mul k hq0]
    have hd := od_le hq0 (by omega) hq
    have h3 := od_mul_tz U
    have h4 : dg (od U * 10 ^ tz U) = dg (od U) + tz U := dg_mul _ (od_ne h0)
    rw [h3] at h4
    have h5 := (dg_iff U (pr s + 1500)).2 hU
    rw [hm]
    have hE : fE U = (tz U : Int) - 1100 := by unfold fE; rw [if_neg h0]
    rw [hE]
    refine ⟨sg_mod neg (od_mod h0), by rw [ho]; exact hd, by omega, by omega⟩

theorem form_val {p : Nat} {neg : Bool} {U : Nat} (h : Fits p U) : sc (mag (fM neg U)) (fE U) = U := by
  by_cases h0 : U = 0
  · subst h0
    rw [fM_zero, fE_zero]
    unfold sc
    rw [show mag 0 = 0 from rfl, Nat.zero_mul]
  · obtain ⟨hU, q, k, he, hq, hk⟩ := h
    have hm : mag (fM neg U) = od U := sg_mag _ _
    have hE : fE U = (tz U : Int) - 1100 := by unfold fE; rw [if_neg h0]
    unfold sc
    rw [hm, hE]
    have : ((tz U : Int) - 1100 + 1100).toNat = tz U := by omega
    rw [this]
    exact od_mul_tz U
theorem form_neg {neg : Bool} {U : Nat} (h0 : U ≠ 0) : decide (fM neg U < 0) = neg := sg_lt neg (od_ne h0)

theorem oV_fits {p : Nat} {how : Int} {neg : Bool} {V : Nat} {m : Bool} : Fits p (oV p how neg V m) := by
  unfold oV
  split
  · split
    · refine ⟨?_, 10 ^ p - 1, 1500, rfl, Nat.sub_le _ _, by omega⟩
      unfold mst
      rw [Nat.pow_add]
      exact Nat.mul_lt_mul_of_pos_right (by have := p10 p; omega) (p10 1500)
    · exact fits_zero p
  · rename_i h
    unfold ovf at h
    have h1 : ¬ 10 ^ (p + 1500) ≤ rv p how neg V m := fun h2 => h (decide_eq_true h2)
    exact ⟨Nat.lt_of_not_le h1, rq p how neg V m, lst p V, rfl, rq_le p how neg V m, lst_ge p V⟩

theorem res_vld {s how : Int} {neg : Bool} {V : Nat} {m : Bool} (hs : isSz s = true) : vld s (rM (pr s) how neg V m) (rE (pr s) how neg V m) = true := form_vld hs oV_fits
theorem res_val {s how : Int} {neg : Bool} {V : Nat} {m : Bool} : sc (mag (rM (pr s) how neg V m)) (rE (pr s) how neg V m) = oV (pr s) how neg V m := form_val (p := pr s) oV_fits

/-- A valid real's number. -/
theorem vld_fits {s m e : Int} (h : vld s m e = true) : Fits (pr s) (sc (mag m) e) := by
  unfold vld at h
  rw [Bool.and_eq_true] at h
  by_cases h0 : m = 0
  · have : mag m = 0 := by unfold mag; omega
    rw [this]
    unfold sc
    rw [Nat.zero_mul]
    exact fits_zero _
  · have h2 := h.2
    rw [if_neg h0] at h2
    obtain ⟨a, b, c, d⟩ := of_decide_eq_true h2
    have hm : mag m ≠ 0 := by unfold mag; omega
    refine ⟨?_, mag m, (e + 1100).toNat, rfl, Nat.le_of_lt ((dg_iff _ _).1 b), by omega⟩
    rw [← dg_iff]
    unfold sc
    rw [dg_mul _ hm]
    omega
/-- A valid real's form is that of its number. -/
theorem vld_form {s m e : Int} (h : vld s m e = true) : fM (decide (m < 0)) (sc (mag m) e) = m ∧ fE (sc (mag m) e) = e := by
  unfold vld at h
  rw [Bool.and_eq_true] at h
  by_cases h0 : m = 0
  · subst h0
    have h2 := h.2
    rw [if_pos rfl] at h2
    have he := of_decide_eq_true h2
    subst he
    have : mag 0 = 0 := by unfold mag; omega
    rw [this]
    unfold sc
    rw [Nat.zero_mul, fM_zero, fE_zero]
    exact ⟨rfl, rfl⟩
  · have h2 := h.2
    rw [if_neg h0] at h2
    obtain ⟨a, b, c, d⟩ := of_decide_eq_true h2
    have hm : mag m ≠ 0 := by unfold mag; omega
    have hz : mag m % 10 ≠ 0 := by unfold mag; omega
    unfold sc
    refine ⟨?_, ?_⟩
    · rw [fM_mul _ _ hm, od_none hz]
      unfold sg mag
      by_cases hn : m < 0
      · rw [decide_eq_true hn, if_pos rfl]; omega
      · rw [decide_eq_false hn, if_neg (by simp)]; omega
    · rw [fE_mul _ hm, tz_none hz]; omega
/-- A valid real's number is rounded to itself. -/
theorem vld_same {s m e how : Int} (neg : Bool) (h : vld s m e = true) : rv (pr s) how neg (sc (mag m) e) false = sc (mag m) e := by
  have hF := vld_fits h
  apply rv_exact
  unfold vld at h
  rw [Bool.and_eq_true] at h
  by_cases h0 : m = 0
  · have : mag m = 0 := by unfold mag; omega
    rw [this]
    unfold sc
    rw [Nat.zero_mul, Nat.zero_mod]
  · have h2 := h.2
    rw [if_neg h0] at h2
    obtain ⟨a, b, c, d⟩ := of_decide_eq_true h2
    have hm : mag m ≠ 0 := by unfold mag; omega
    unfold sc
    rw [lst_mul _ hm]
    have hle : max (dg (mag m) + (e + 1100).toNat - pr s) 700 ≤ (e + 1100).toNat := by omega
    generalize max (dg (mag m) + (e + 1100).toNat - pr s) 700 = t at hle ⊢
    obtain ⟨r, hr⟩ := Nat.exists_eq_add_of_le hle
    rw [hr, Nat.pow_add, ← Nat.mul_assoc, Nat.mul_right_comm]
    exact Nat.mul_mod_left _ _
end Go.Proofs.YtanfhlkfmmglhaaDoor
/- The program's sign of a real, and its comparison of two absolute values. Condition: the tables hold what their initialisers lay. -/
namespace Go.Proofs.YtanfhlkfmmglhaaDoor
open Go.ChangeShapes Go.WideShapes Go.ChangeAt Go.RowKit
attribute [local go_sem ↓] Go.wp_at_zero Go.wp_at_succ

def sgn (m : Int) : Int := if m < 0 then -1 else if 0 < m then 1 else 0
theorem sign_any (m e : Int) (w : World) (ht : Tab w) : Calls Tryd.prog 56 #[.agg #[.int .i64 m, .int .i64 e]] w fun x w' => x = .returned (.int .i64 (sgn m)) ∧ Kept w w' := by
  have hlt := ht.lt
  have hlt0 := ht.lt0
  rcases (by omega : m < 0 ∨ m = 0 ∨ 0 < m) with h | h | h
  · have HS : Hid (sgn m = -1) := Lib.hid (by unfold sgn; rw [if_pos h])
    have h1 : decide (m < 0) = true := decide_eq_true h
    clear h
    go_enter Tryd.func56, Tryd.ntmps56
    go_wp2
    go_returns
    exact ⟨by rw [HS.out]; rfl, (by repeat' (first | (with_reducible assumption) | (with_reducible exact Kept.refl ht) | (with_reducible refine Kept.alloc ?_ _) | (with_reducible refine Kept.drew ?_) | (with_reducible refine Kept.drewN ?_ _) | (with_reducible refine Kept.setCell ?_ ?_ _ ?_ ?_) | (with_reducible refine Kept.trans ?_ (by assumption)) | omega | (simp; done) | (simp; omega)))⟩
  · subst h
    go_enter Tryd.func56, Tryd.ntmps56
    go_wp2
    go_returns
    exact ⟨rfl, (by repeat' (first | (with_reducible assumption) | (with_reducible exact Kept.refl ht) | (with_reducible refine Kept.alloc ?_ _) | (with_reducible refine Kept.drew ?_) | (with_reducible refine Kept.drewN ?_ _) | (with_reducible refine Kept.setCell ?_ ?_ _ ?_ ?_) | (with_reducible refine Kept.trans ?_ (by assumption)) | omega | (simp; done) | (simp; omega)))⟩
  · have HS : Hid (sgn m = 1) := Lib.hid (by unfold sgn; rw [if_neg (by omega), if_pos h])
    have h1 : decide (m < 0) = false := decide_eq_false (by omega)
    have h2 : decide (0 < m) = true := decide_eq_true h
    clear h
    go_enter Tryd.func56, Tryd.ntmps56
    go_wp2
    go_returns
    exact ⟨by rw [HS.out]; rfl, (by repeat' (first | (with_reducible assumption) | (with_reducible exact Kept.refl ht) | (with_reducible refine Kept.alloc ?_ _) | (with_reducible refine Kept.drew ?_) | (with_reducible refine Kept.drewN ?_ _) | (with_reducible refine Kept.setCell ?_ ?_ _ ?_ ?_) | (with_reducible refine Kept.trans ?_ (by assumption)) | omega | (simp; done) | (simp; omega)))⟩

theorem gap_wrap {e f g : Int} (hg : e - f = g) (h0 : 0 ≤ g) (h1 : g < 18446744073709551616) : IntKind.u64.wrap (IntKind.u64.wrap e - IntKind.u64.wrap f) = g := by
  rw [IntKind.wrap_u64, IntKind.wrap_u64, IntKind.wrap_u64]
  omega

def cmpN (x y : Nat) : Int := if x < y then -1 else if y < x then 1 else 0
/-- How numbers x 10^g and y compare. -/
def cmG (x y : Nat) (g : Int) : Int := if 19 < g then 1 else cmpN (x * 10 ^ g.toNat) y
theorem cmG_far {x y : Nat} {g : Int} (h : 19 < g) : cmG x y g = 1 := by unfold cmG; rw [if_pos h]

set_option maxHeartbeats 2000000 in
theorem cmpmag_far (a e b f g : Int) (w : World) (ht : Tab w) (hg : e - f = g) (h0 : 19 < g) (h1 : g < 18446744073709551616) :
    Calls Tryd.prog 57 #[.agg #[.int .i64 a, .int .i64 e], .agg #[.int .i64 b, .int .i64 f]] w fun x w' => x = .returned (.int .i64 (cmG (mag a) (mag b) g)) ∧ Kept w w' := by
  have hlt := ht.lt
  have hlt0 := ht.lt0
  have hC := Lib.hid (cmG_far (x := mag a) (y := mag b) h0)
  have hW := gap_wrap hg (by omega) h1
  have hd : decide (e < f) = false := decide_eq_false (by omega)
  have hd2 : decide (19 < g) = true := decide_eq_true h0
  clear hg h0 h1
  go_enter Tryd.func57, Tryd.ntmps57
  go_wp2
  go_returns
  exact ⟨by rw [hC.out]; rfl, (by repeat' (first | (with_reducible assumption) | (with_reducible exact Kept.refl ht) | (with_reducible refine Kept.alloc ?_ _) | (with_reducible refine Kept.drew ?_) | (with_reducible refine Kept.drewN ?_ _) | (with_reducible refine Kept.setCell ?_ ?_ _ ?_ ?_) | (with_reducible refine Kept.trans ?_ (by assumption)) | omega | (simp; done) | (simp; omega)))⟩
