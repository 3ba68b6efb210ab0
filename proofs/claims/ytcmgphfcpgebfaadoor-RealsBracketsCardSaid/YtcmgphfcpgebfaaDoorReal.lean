/- The program's grows and real: whether a number is rounded away from 0, and the form of a number. Condition: the tables hold what their initialisers lay. -/
import Derived.Test.YtcmgphfcpgebfaaDoorCut
namespace Go.Proofs.YtcmgphfcpgebfaaDoor
open Go.ChangeShapes Go.WideShapes Go.ChangeAt Go.RowKit
attribute [local go_sem ↓] Go.wp_at_zero Go.wp_at_succ

theorem lo_mod2 (n : Nat) : loW n % 2 = n % 2 := by unfold loW; omega
theorem grow_zero' (neg : Bool) (q : Nat) (t : Nat) : grow 0 neg q t = decide (t = 3 ∨ (t = 2 ∧ q % 2 = 1)) := by unfold grow; rw [if_pos rfl]
theorem grow_other {how : Int} (h : ¬ how = 0) (neg : Bool) (q : Nat) (t : Nat) : grow how neg q t = (decide (t ≠ 0) && !inw how neg) := by unfold grow; rw [if_neg h]

set_option maxHeartbeats 1000000 in
theorem grows_any (neg : Bool) (n : Nat) (e : Int) (m : Bool) (how : Int) (t : Nat) (w : World) (ht : Tab w) (h3 : t ≤ 3) :
    Calls Tryd.prog 81 #[.agg #[.bool neg, .int .u64 (hiW n : Int), .int .u64 (loW n : Int), .int .i64 e, .bool m], .int .i64 how, .int .i64 (t : Int)] w fun x w' => x = .returned (.bool (grow how neg n t)) ∧ Kept w w' := by
  have hlt := ht.lt
  by_cases h : how = 0
  · subst h
    rw [grow_zero']
    have ho := lo_mod2 n
    rcases (by omega : n % 2 = 0 ∨ n % 2 = 1) with hp | hp
    · rw [hp] at ho
      have h2 : ((loW n : Int) % 2 != 0) = false := by rw [bne_eq_false_iff_eq]; omega
      have e1 : decide (t = 3 ∨ (t = 2 ∧ n % 2 = 1)) = decide (t = 3) := by congr 1; simp; omega
      rw [e1]
      clear e1 hp ho
      rcases (by omega : t = 0 ∨ t = 1 ∨ t = 2 ∨ t = 3) with h | h | h | h
      all_goals
        subst h
        go_enter Tryd.func81, Tryd.ntmps81
        go_wp2
        go_returns
        exact ⟨by simp, (by repeat' (first | (with_reducible assumption) | (with_reducible exact Kept.refl ht) | (with_reducible refine Kept.alloc ?_ _) | (with_reducible refine Kept.drew ?_) | (with_reducible refine Kept.drewN ?_ _) | (with_reducible refine Kept.setCell ?_ ?_ _ ?_ ?_) | (with_reducible refine Kept.trans ?_ (by assumption)) | omega | (simp; done) | (simp; omega)))⟩
    · rw [hp] at ho
      have h2 : ((loW n : Int) % 2 != 0) = true := by rw [bne_iff_ne]; omega
      have e1 : decide (t = 3 ∨ (t = 2 ∧ n % 2 = 1)) = decide (t = 3 ∨ t = 2) := by congr 1; simp; omega
      rw [e1]
      clear e1 hp ho
      rcases (by omega : t = 0 ∨ t = 1 ∨ t = 2 ∨ t = 3) with h | h | h | h
      all_goals
        subst h
        go_enter Tryd.func81, Tryd.ntmps81
        go_wp2
        go_returns
        exact ⟨by simp, (by repeat' (first | (with_reducible assumption) | (with_reducible exact Kept.refl ht) | (with_reducible refine Kept.alloc ?_ _) | (with_reducible refine Kept.drew ?_) | (with_reducible refine Kept.drewN ?_ _) | (with_reducible refine Kept.setCell ?_ ?_ _ ?_ ?_) | (with_reducible refine Kept.trans ?_ (by assumption)) | omega | (simp; done) | (simp; omega)))⟩
  · rw [grow_other h]
    have h' : (how != 0) = true := by rw [bne_iff_ne]; exact h
    have h1 : ¬ how = 0 := h
    clear h
    rcases (by omega : t = 0 ∨ t = 1 ∨ t = 2 ∨ t = 3) with h | h | h | h
    all_goals
      subst h
      go_enter Tryd.func81, Tryd.ntmps81
      go_wp2_with (first | (go_at_call 84; (with_reducible refine (inwards_any how neg _).mono ?_); rintro e w' ⟨rfl, rfl⟩))
      go_returns
      exact ⟨by simp, (by repeat' (first | (with_reducible assumption) | (with_reducible exact Kept.refl ht) | (with_reducible refine Kept.alloc ?_ _) | (with_reducible refine Kept.drew ?_) | (with_reducible refine Kept.drewN ?_ _) | (with_reducible refine Kept.setCell ?_ ?_ _ ?_ ?_) | (with_reducible refine Kept.trans ?_ (by assumption)) | omega | (simp; done) | (simp; omega)))⟩

set_option maxHeartbeats 1000000 in
theorem real_zero (neg : Bool) (e : Int) (m : Bool) (w : World) (ht : Tab w) : Calls Tryd.prog 83 #[.agg #[.bool neg, .int .u64 (hiW 0 : Int), .int .u64 (loW 0 : Int), .int .i64 e, .bool m]] w fun x w' => x = .returned (.agg #[.int .i64 0, .int .i64 0]) ∧ Kept w w' := by
  have hlt := ht.lt
  go_enter Tryd.func83, Tryd.ntmps83
  go_wp2_with (first | (go_at_call 78; (with_reducible refine (isZero_any 0 _ (by repeat' (first | (with_reducible assumption) | (with_reducible refine Tab.alloc ?_ _) | (with_reducible refine Tab.drew ?_) | (with_reducible refine Tab.drewN ?_ _) | (with_reducible refine Tab.setCell ?_ ?_ ?_ _) | omega | (simp; done) | (simp; omega)))).mono ?_); rintro e w1 ⟨rfl, hk1⟩; obtain ⟨hc1, hf1⟩ := bcell hk1.2; have ht1 := hk1.1; have hz1 := hk1.2.size; (try simp only [World.size_alloc] at hz1); (try simp only [sz_drew] at hz1); (try simp only [sz_drewN] at hz1); (try simp only [World.size_alloc] at hz1); (try simp only [sz_drew] at hc1 hf1); (try simp only [sz_drewN] at hc1 hf1); (try have hw1 : w.heap.size < w1.heap.size := by omega); (try have hv1 : w.heap.size + 1 < w1.heap.size := by omega); (try have hu1 : w.heap.size + 2 < w1.heap.size := by omega)))
  have hF := (((Own.new1 w _ 29 [.int .i64 0, .int .i64 0]).call hk1).put 0 (.int .i64 0)).put 1 (.int .i64 0)
  refine bodyPost_ret (ret_own rfl hF rfl Tryd.underlying29 rfl (by kernel_rfl)) rfl ?_
  exact ⟨rfl, (by repeat' (first | (with_reducible assumption) | (with_reducible exact Kept.refl ht) | (with_reducible refine Kept.alloc ?_ _) | (with_reducible refine Kept.drew ?_) | (with_reducible refine Kept.drewN ?_ _) | (with_reducible refine Kept.setCell ?_ ?_ _ ?_ ?_) | (with_reducible refine Kept.trans ?_ (by assumption)) | omega | (simp; done) | (simp; omega)))⟩

/-- What holds at each round's head of real's loop. -/
def ReRel (n : Nat) (e : Int) (v u : Value) : Prop := ∃ a E : Int, v = .int .i64 a ∧ u = .int .i64 E ∧ 1 ≤ a ∧ a ≤ n ∧ od a.toNat = od n ∧ E + (tz a.toNat : Int) = e + (tz n : Int)
theorem tz_le (n : Nat) (h : n < 340282366920938463463374607431768211456) (h0 : n ≠ 0) : tz n ≤ 38 := by
  rcases Nat.lt_or_ge 38 (tz n) with h1 | h1
  · exfalso
    have h2 := od_mul_tz n
    have h3 : 1 ≤ od n := Nat.one_le_iff_ne_zero.2 (od_ne h0)
    have h4 := p10_le (show 39 ≤ tz n by omega)
    have h5 := Nat.mul_le_mul h3 h4
    rw [h2] at h5
    simp at h5
    omega
  · exact h1
theorem real_eq {a b c d : Int} (h1 : a = c) (h2 : b = d) : Ending.returned (.agg #[.int .i64 a, .int .i64 b]) = .returned (.agg #[.int .i64 c, .int .i64 d]) := by rw [h1, h2]
theorem re_next {a : Int} (h : 1 ≤ a) (h0 : a % 10 = 0) : 1 ≤ a / 10 ∧ od (a / 10).toNat = od a.toNat ∧ ((tz a.toNat : Nat) : Int) = tz (a / 10).toNat + 1 ∧ a / 10 < a := by
  have e1 : (a / 10).toNat = a.toNat / 10 := by omega
  rw [e1, ← od_step (by omega) (by omega), tz_step (n := a.toNat) (by omega) (by omega)]
  exact ⟨by omega, rfl, by omega, by omega⟩
theorem re_stop {a : Int} (h : 1 ≤ a) (h0 : ¬ a % 10 = 0) : ((od a.toNat : Nat) : Int) = a ∧ tz a.toNat = 0 := by
  rw [od_none (by omega), tz_none (by omega)]
  exact ⟨by omega, rfl⟩

set_option maxRecDepth 100000 in
set_option maxHeartbeats 1000000 in
theorem real_any (neg : Bool) (n : Nat) (e : Int) (m : Bool) (w : World) (ht : Tab w) (h0 : n ≠ 0) (hn : n < 9223372036854775808) (he : -1000000 ≤ e) (he' : e ≤ 1000000) :
    Calls Tryd.prog 83 #[.agg #[.bool neg, .int .u64 (hiW n : Int), .int .u64 (loW n : Int), .int .i64 e, .bool m]] w fun x w' => x = .returned (.agg #[.int .i64 (sg neg (od n)), .int .i64 (e + (tz n : Int))]) ∧ Kept w w' := by
  have hlt := ht.lt
  have hlt0 := ht.lt0
  have hlo : loW n = n := by unfold loW; omega
  have hd : decide (n = 0) = false := decide_eq_false h0
  have htz := tz_le n (by omega) h0
  obtain ⟨a0, ha0⟩ : ∃ a0 : Int, a0 = (n : Int) := ⟨_, rfl⟩
  have ha1 : 1 ≤ a0 := by omega
  have ha2 : a0 ≤ 9223372036854775807 := by omega
  have hw : IntKind.i64.wrap (loW n : Int) = a0 := by rw [hlo, ha0, IntKind.wrap_i64]; omega
  have hR : Hid (ReRel n e (.int .i64 a0) (.int .i64 e)) := Lib.hid ⟨a0, e, rfl, rfl, ha1, by omega, by rw [ha0]; simp, by rw [ha0]; simp⟩
  have H0 := Lib.hid h0
  have HN := Lib.hid hn
  have HA := Lib.hid ha0
  have HT := Lib.hid htz
  clear h0 hn hlo htz ha0
  go_enter Tryd.func83, Tryd.ntmps83
  go_upto_region 3 with (first | (go_at_call 78; (with_reducible refine (isZero_any n _ (by repeat' (first | (with_reducible assumption) | (with_reducible refine Tab.alloc ?_ _) | (with_reducible refine Tab.drew ?_) | (with_reducible refine Tab.drewN ?_ _) | (with_reducible refine Tab.setCell ?_ ?_ ?_ _) | omega | (simp; done) | (simp; omega)))).mono ?_); rintro e w1 ⟨rfl, hk1⟩; obtain ⟨hc1, hf1⟩ := bcell hk1.2; have ht1 := hk1.1; have hz1 := hk1.2.size; (try simp only [World.size_alloc] at hz1); (try simp only [sz_drew] at hz1); (try simp only [sz_drewN] at hz1); (try simp only [World.size_alloc] at hz1); (try simp only [sz_drew] at hc1 hf1); (try simp only [sz_drewN] at hc1 hf1); (try have hw1 : w.heap.size < w1.heap.size := by omega); (try have hv1 : w.heap.size + 1 < w1.heap.size := by omega); (try have hu1 : w.heap.size + 2 < w1.heap.size := by omega)))
  go_quiet (fail)
  go_wp2_with fail
  have hI := (Inv.two ht 64 [.bool neg, .int .u64 (hiW n : Int), .int .u64 (loW n : Int), .int .i64 e, .bool m] 29 [.int .i64 0, .int .i64 0]).call hk1
  (have x0 : w1.cell? ⟨w.heap.size, 0, none⟩ = some (.bool neg) := (hI.own 0 _ rfl).cell 0; have x1 : w1.cell? ⟨w.heap.size, 1, none⟩ = some (.int .u64 (hiW n : Int)) := (hI.own 0 _ rfl).cell 1; have x2 : w1.cell? ⟨w.heap.size, 2, none⟩ = some (.int .u64 (loW n : Int)) := (hI.own 0 _ rfl).cell 2; have x3 : w1.cell? ⟨w.heap.size, 3, none⟩ = some (.int .i64 e) := (hI.own 0 _ rfl).cell 3; have x4 : w1.cell? ⟨w.heap.size, 4, none⟩ = some (.bool m) := (hI.own 0 _ rfl).cell 4; have xf := fun i => (hI.own 0 _ rfl).frozen i; have xl : w.heap.size < w1.heap.size := (hI.own 0 _ rfl).lt)
  (have y0 : w1.cell? ⟨w.heap.size + 1, 0, none⟩ = some (.int .i64 0) := (hI.own 1 _ rfl).cell 0; have y1 : w1.cell? ⟨w.heap.size + 1, 1, none⟩ = some (.int .i64 0) := (hI.own 1 _ rfl).cell 1; have yf := fun i => (hI.own 1 _ rfl).frozen i; have yl : w.heap.size + 1 < w1.heap.size := (hI.own 1 _ rfl).lt)
  have HY := Lib.hid (hI.own 1 _ rfl)
  have hK := hI.kept
  clear hI
  go_loop [3, 4] (fun v u => ReRel n e v u) (fun v _ => (intOf v).toNat)
  case atStart => exact hR.out
  case round =>
    obtain ⟨a, E, rfl, rfl, r1, r2, r3, r4⟩ := hrel
    have r6 : a ≤ 9223372036854775807 := by have := HN.out; omega
    have r7 := tz_le a.toNat (by omega) (by omega)
    have r8 : -2000000 ≤ E := by omega
    have r9 : E ≤ 2000000 := by have := HT.out; omega
    have R2 := Lib.hid r2
    have R3 := Lib.hid r3
    have R4 := Lib.hid r4
    clear r2 r3 r4 r7
    by_cases hm : a % 10 = 0
    · obtain ⟨n1, n2, n3, n4⟩ := re_next r1 hm
      have N2 := Lib.hid n2
      have N3 := Lib.hid n3
      have hm' : (a % 10 == 0) = true := by rw [beq_iff_eq]; exact hm
      clear hm n2 n3
      go_wp2_with fail
      go_round
      case rel => exact ⟨a / 10, E + 1, rfl, rfl, n1, by have := R2.out; omega, N2.out.trans R3.out, by have := R4.out; have := N3.out; omega⟩
      case measure => simp [intOf]; omega
    · obtain ⟨n1, n2⟩ := re_stop r1 hm
      rw [R3.out] at n1
      have hm' : (a % 10 == 0) = false := by rw [beq_eq_false_iff_ne]; exact hm
      have N1 := Lib.hid n1
      have N2 : Hid (E = e + (tz n : Int)) := Lib.hid (by have := R4.out; rw [n2] at this; omega)
      clear hm n1 n2
      cases neg
      · go_wp2_with fail
        have hF := ((HY.out.put 0 (.int .i64 a)).put 1 (.int .i64 E)).drewN nq
        refine bodyPost_ret (ret_own rfl hF rfl Tryd.underlying29 rfl (by kernel_rfl)) rfl ?_
        exact ⟨real_eq (by simp [sg, N1.out]) N2.out, (by repeat' (first | (with_reducible assumption) | (with_reducible exact Kept.refl ht) | (with_reducible refine Kept.alloc ?_ _) | (with_reducible refine Kept.drew ?_) | (with_reducible refine Kept.drewN ?_ _) | (with_reducible refine Kept.setCell ?_ ?_ _ ?_ ?_) | (with_reducible refine Kept.trans ?_ (by assumption)) | omega | (simp; done) | (simp; omega)))⟩
      · go_wp2_with fail
        have hF := ((HY.out.put 0 (.int .i64 (-a))).put 1 (.int .i64 E)).drewN nq
        refine bodyPost_ret (ret_own rfl hF rfl Tryd.underlying29 rfl (by kernel_rfl)) rfl ?_
        exact ⟨real_eq (by simp [sg, N1.out]) N2.out, (by repeat' (first | (with_reducible assumption) | (with_reducible exact Kept.refl ht) | (with_reducible refine Kept.alloc ?_ _) | (with_reducible refine Kept.drew ?_) | (with_reducible refine Kept.drewN ?_ _) | (with_reducible refine Kept.setCell ?_ ?_ _ ?_ ?_) | (with_reducible refine Kept.trans ?_ (by assumption)) | omega | (simp; done) | (simp; omega)))⟩
end Go.Proofs.YtcmgphfcpgebfaaDoor
