/- The program's exact numbers with more digits: longer. Condition: the tables hold what their initialisers lay. -/
import Derived.Test.YtcmgphfcpgebfaaDoorExo
namespace Go.Proofs.YtcmgphfcpgebfaaDoor
open Go.ChangeShapes Go.WideShapes Go.ChangeAt Go.RowKit
attribute [local go_sem ↓] Go.wp_at_zero Go.wp_at_succ

/-- What holds at each round's head of longer's loop. -/
def LoRel (neg : Bool) (N : Nat) (E : Int) (m : Bool) (w : World) (v : Value) (wr : World) : Prop :=
  ∃ (n' : Nat) (e' k' : Int), v = .int .i64 k' ∧ Inv w [(w.heap.size, 64, [.bool neg, .int .u64 (hiW n' : Int), .int .u64 (loW n' : Int), .int .i64 e', .bool m]), (w.heap.size + 1, 64, [.bool false, .int .u64 0, .int .u64 0, .int .i64 0, .bool false])] wr ∧ n' * 10 ^ k'.toNat = N ∧ e' - (k'.toNat : Int) = E ∧ -100 ≤ k' ∧ k' ≤ 100

theorem lo_next {n' : Nat} {k' : Int} {d : Nat} (h : min k' 19 = (d : Int)) (hk : 0 < k') : n' * tn d * 10 ^ (k' - 19).toNat = n' * 10 ^ k'.toNat ∧ ((k' - 19).toNat : Int) + d = k'.toNat := by
  have e : k'.toNat = d + (k' - 19).toNat := by omega
  rw [e, Nat.pow_add, ← Nat.mul_assoc]
  exact ⟨rfl, by omega⟩

theorem lo_bound {n : Nat} {D : Int} (hn : n < 340282366920938463463374607431768211456) (hD : D ≤ 38) : n * 10 ^ (D.toNat - dg n) < 340282366920938463463374607431768211456 := by
  rcases Nat.lt_or_ge (dg n) D.toNat with h | h
  · have h1 := Nat.mul_lt_mul_of_pos_right (lt_dg n) (p10 (D.toNat - dg n))
    rw [← Nat.pow_add] at h1
    refine Nat.lt_of_lt_of_le h1 (Nat.le_trans (p10_le (show dg n + (D.toNat - dg n) ≤ 38 by omega)) (by decide))
  · rw [show D.toNat - dg n = 0 by omega]; simpa using hn
set_option maxRecDepth 100000 in
set_option maxHeartbeats 2000000 in
theorem longer_any (neg : Bool) (n : Nat) (e : Int) (m : Bool) (D : Int) (w : World) (ht : Tab w) (hn : n < 340282366920938463463374607431768211456) (he : -1000000 ≤ e) (he' : e ≤ 1000000) (hD : 0 ≤ D) (hD' : D ≤ 38) :
    Calls Tryd.prog 95 #[.agg #[.bool neg, .int .u64 (hiW n : Int), .int .u64 (loW n : Int), .int .i64 e, .bool m], .int .i64 D] w fun x w' => x = .returned (.agg #[.bool neg, .int .u64 (hiW (n * 10 ^ (D.toNat - dg n)) : Int), .int .u64 (loW (n * 10 ^ (D.toNat - dg n)) : Int), .int .i64 (e - ((D.toNat - dg n : Nat) : Int)), .bool m]) ∧ Kept w w' := by
  have hlt := ht.lt
  have hlt0 := ht.lt0
  have hdg : dg n ≤ 39 := (dg_iff n 39).2 (by simp; omega)
  go_enter Tryd.func95, Tryd.ntmps95
  go_wp2_with (first | (go_at_call 79; (with_reducible refine (digits_any n _ (by repeat' (first | (with_reducible assumption) | (with_reducible refine Tab.alloc ?_ _) | (with_reducible refine Tab.drew ?_) | (with_reducible refine Tab.drewN ?_ _) | (with_reducible refine Tab.setCell ?_ ?_ ?_ _) | omega | (simp; done) | (simp; omega))) hn).mono ?_); rintro e w1 ⟨rfl, hk1⟩; obtain ⟨hc1, hf1⟩ := bcell hk1.2; have ht1 := hk1.1; have hz1 := hk1.2.size; (try simp only [World.size_alloc] at hz1); (try simp only [sz_drew] at hz1); (try simp only [sz_drewN] at hz1); (try simp only [World.size_alloc] at hz1); (try simp only [sz_drew] at hc1 hf1); (try simp only [sz_drewN] at hc1 hf1); (try have hw1 : w.heap.size < w1.heap.size := by omega); (try have hv1 : w.heap.size + 1 < w1.heap.size := by omega); (try have hu1 : w.heap.size + 2 < w1.heap.size := by omega)))
  go_loopw [5] (LoRel neg (n * 10 ^ (D.toNat - dg n)) (e - ((D.toNat - dg n : Nat) : Int)) m w) (fun v _ => (intOf v).toNat)
  case atStart =>
    refine ⟨n, e, D - (dg n : Int), rfl, ?_, ?_, ?_, by omega, by omega⟩
    · exact (Inv.two ht _ [_, _, _, _, _] _ [_, _, _, _, _]).call hk1
    · congr 2; omega
    · congr 1; omega
  case round =>
    obtain ⟨n', e', k', rfl, hI, r1, r2, r3, r4⟩ := hrel
    have z0 : wr.cell? ⟨w.heap.size, 0, none⟩ = some (.bool neg) := (hI.own 0 _ rfl).cell 0
    have z1 : wr.cell? ⟨w.heap.size, 1, none⟩ = some (.int .u64 (hiW n' : Int)) := (hI.own 0 _ rfl).cell 1
    have z2 : wr.cell? ⟨w.heap.size, 2, none⟩ = some (.int .u64 (loW n' : Int)) := (hI.own 0 _ rfl).cell 2
    have z3 : wr.cell? ⟨w.heap.size, 3, none⟩ = some (.int .i64 e') := (hI.own 0 _ rfl).cell 3
    have z4 : wr.cell? ⟨w.heap.size, 4, none⟩ = some (.bool m) := (hI.own 0 _ rfl).cell 4
    have fz := fun i => (hI.own 0 _ rfl).frozen i
    have y0 : wr.cell? ⟨w.heap.size + 1, 0, none⟩ = some (.bool false) := (hI.own 1 _ rfl).cell 0
    have y1 : wr.cell? ⟨w.heap.size + 1, 1, none⟩ = some (.int .u64 0) := (hI.own 1 _ rfl).cell 1
    have y2 : wr.cell? ⟨w.heap.size + 1, 2, none⟩ = some (.int .u64 0) := (hI.own 1 _ rfl).cell 2
    have y3 : wr.cell? ⟨w.heap.size + 1, 3, none⟩ = some (.int .i64 0) := (hI.own 1 _ rfl).cell 3
    have y4 : wr.cell? ⟨w.heap.size + 1, 4, none⟩ = some (.bool false) := (hI.own 1 _ rfl).cell 4
    have fy := fun i => (hI.own 1 _ rfl).frozen i
    have be : -2000000 ≤ e' := by omega
    have be' : e' ≤ 2000000 := by omega
    have R1 := Lib.hid r1
    have R2 := Lib.hid r2
    have HI := Lib.hid hI
    have HY := Lib.hid (hI.own 1 _ rfl)
    have l1 : w.heap.size < wr.heap.size := (hI.own 0 _ rfl).lt
    have l2 : w.heap.size + 1 < wr.heap.size := (hI.own 1 _ rfl).lt
    have l3 := hI.kept.1.lt
    have ht' := hI.kept.1
    have hK := hI.kept
    clear r1 r2 hI
    by_cases hk0 : 0 < k'
    · obtain ⟨d, hmin⟩ := Int.eq_ofNat_of_zero_le (show 0 ≤ min k' 19 by omega)
      have hd20 : d < 20 := by omega
      have hd20i : (d : Int) < 20 := by omega
      have hdn : (0 : Int) ≤ (d : Int) := by omega
      have hTd : tn d < 18446744073709551616 := Nat.lt_of_le_of_lt (p10_le (show d ≤ 19 by omega)) (by decide)
      have s1 := Lib.hid (lo_next (n' := n') hmin hk0)
      have tc := ht'.tens d hd20
      go_upto_region 5 with fail
      have hNb : n' * tn d < 340282366920938463463374607431768211456 := by
        have h1 : n' * tn d ≤ n * 10 ^ (D.toNat - dg n) := by
          rw [← R1.out, ← s1.out.1]
          exact Nat.le_mul_of_pos_right _ (p10 _)
        exact Nat.lt_of_le_of_lt h1 (lo_bound hn hD')
      go_region_with (first | (go_at_call 90; (with_reducible refine (times_any n' (tn d) _ (by repeat' (first | (with_reducible assumption) | (with_reducible refine Tab.alloc ?_ _) | (with_reducible refine Tab.drew ?_) | (with_reducible refine Tab.drewN ?_ _) | (with_reducible refine Tab.setCell ?_ ?_ ?_ _) | omega | (simp; done) | (simp; omega))) hTd hNb).mono ?_); rintro e w2 ⟨rfl, hk2⟩; obtain ⟨hc2, hf2⟩ := bcell hk2.2; have ht2 := hk2.1; have hz2 := hk2.2.size; (try simp only [World.size_alloc] at hz2); (try simp only [sz_drew] at hz2); (try simp only [sz_drewN] at hz2); (try simp only [World.size_alloc] at hz2); (try simp only [sz_drew] at hc2 hf2); (try simp only [sz_drewN] at hc2 hf2); (try have hw2 : w.heap.size < w2.heap.size := by omega); (try have hv2 : w.heap.size + 1 < w2.heap.size := by omega); (try have hu2 : w.heap.size + 2 < w2.heap.size := by omega)))
      all_goals
        go_wp2_with fail
        go_round
        case rel =>
          refine ⟨n' * tn d, e' - d, k' - 19, rfl, ?_, s1.out.1.trans R1.out, ?_, by omega, by omega⟩
          · exact (((HI.out.drew.call hk2).put 0 rfl 1 _ (by simp) (by omega) hlt hlt0).put 0 rfl 2 _ (by simp) (by omega) hlt hlt0).put 0 rfl 3 _ (by simp) (by omega) hlt hlt0
          · rw [← R2.out]; have := s1.out.2; omega
        case measure => simp [intOf]; omega
    · go_wp2_with fail
      have hF := ((((HY.out.put 0 (.bool neg)).put 1 (.int .u64 (hiW n' : Int))).put 2 (.int .u64 (loW n' : Int))).put 3 (.int .i64 e')).put 4 (.bool m)
      refine bodyPost_ret (ret_own rfl hF rfl Tryd.underlying64 rfl (by kernel_rfl)) rfl ?_
      refine ⟨ex_eq ?_ ?_ rfl neg, ?_⟩
      · rw [← R1.out, show k'.toNat = 0 by omega]; simp
      · rw [← R2.out, show k'.toNat = 0 by omega]; simp
      · exact (by repeat' (first | (with_reducible assumption) | (with_reducible exact Kept.refl ht) | (with_reducible refine Kept.alloc ?_ _) | (with_reducible refine Kept.drew ?_) | (with_reducible refine Kept.drewN ?_ _) | (with_reducible refine Kept.setCell ?_ ?_ _ ?_ ?_) | (with_reducible refine Kept.trans ?_ (by assumption)) | omega | (simp; done) | (simp; omega)))
end Go.Proofs.YtcmgphfcpgebfaaDoor
