/- The program's whole root of a natural number: Newton's steps. Conditions: the tables hold what their initialisers lay; the number is not 0 and has at most 38 digits. -/
import Derived.Test.YtcmgphfcpgebfaaDoorQuo
namespace Go.Proofs.YtcmgphfcpgebfaaDoor
open Go.ChangeShapes Go.WideShapes Go.ChangeAt Go.RowKit
attribute [local go_sem ↓] Go.wp_at_zero Go.wp_at_succ

theorem amgm (r s : Nat) : r * (2 * s - r) ≤ s * s := by
  rcases Nat.lt_or_ge s r with h | h
  · obtain ⟨d, rfl⟩ := Nat.exists_eq_add_of_le (Nat.le_of_lt h)
    rcases Nat.lt_or_ge s d with h1 | h1
    · rw [show 2 * s - (s + d) = 0 by omega]; simp
    · obtain ⟨c, rfl⟩ := Nat.exists_eq_add_of_le h1
      rw [show 2 * (d + c) - (d + c + d) = c by omega, Nat.add_mul, Nat.add_mul, Nat.add_mul, Nat.mul_add, Nat.mul_add, Nat.mul_comm c d]
      omega
  · obtain ⟨d, rfl⟩ := Nat.exists_eq_add_of_le h
    rw [show 2 * (r + d) - r = r + 2 * d by omega, Nat.mul_add, Nat.add_mul, Nat.mul_add, Nat.mul_add, Nat.mul_comm r (2 * d), Nat.mul_assoc, Nat.mul_comm d r]
    omega
/-- A step of Newton's from above stays above the root; where it would go up, it stands at the root. -/
theorem newton (n r : Nat) (hr : 0 < r) : isq n ≤ n / r + (r - n / r) / 2 ∨ r ≤ n / r := by
  rcases Nat.lt_or_ge (n / r) r with h | h
  · left
    have h1 := (isq_spec n).1
    have h2 := amgm r (isq n)
    have h3 : 2 * isq n - r ≤ n / r := by
      rw [Nat.le_div_iff_mul_le hr, Nat.mul_comm]
      exact Nat.le_trans h2 h1
    omega
  · exact Or.inr h
theorem newton_stop (n r : Nat) (hr : 0 < r) (h : r ≤ n / r) (hi : isq n ≤ r) : r = isq n := by
  have h1 : r * r ≤ n := by
    have := (Nat.le_div_iff_mul_le hr).1 h
    exact this
  apply Nat.le_antisymm _ hi
  obtain ⟨a, b⟩ := isq_spec n
  rcases Nat.lt_or_ge (isq n) r with h2 | h2
  · have := Nat.mul_le_mul (show isq n + 1 ≤ r from h2) (show isq n + 1 ≤ r from h2)
    omega
  · exact h2

/-- What holds at each round's head. -/
def RtRel (n : Nat) (w : World) (v : Value) (wr : World) : Prop :=
  ∃ (ri : Int) (r : Nat), v = .int .u64 ri ∧ Hid (ri = (r : Int)) ∧ 1 ≤ ri ∧ ri ≤ 10000000000000000000 ∧ isq n ≤ r ∧ Inv w [(w.heap.size, 62, [.int .u64 (hiW n : Int), .int .u64 (loW n : Int)])] wr

set_option maxRecDepth 100000 in
set_option maxHeartbeats 2000000 in
theorem nroot_any (n : Nat) (w : World) (ht : Tab w) (h0 : n ≠ 0) (hn : n < 100000000000000000000000000000000000000) :
    Calls Tryd.prog 97 #[.agg #[.int .u64 (hiW n : Int), .int .u64 (loW n : Int)]] w fun x w' => x = .returned (.int .u64 (isq n : Int)) ∧ Kept w w' := by
  have hlt := ht.lt
  have hlt0 := ht.lt0
  have ht19 := ht.tens 19 (by omega)
  have e19 : ((tn 19 : Nat) : Int) = 10000000000000000000 := by decide
  rw [e19] at ht19
  have hq1 : isq n ≤ 10000000000000000000 := by
    obtain ⟨a, b⟩ := isq_spec n
    rcases Nat.lt_or_ge 10000000000000000000 (isq n) with h | h
    · have := Nat.mul_le_mul (Nat.le_of_lt h) (Nat.le_of_lt h)
      omega
    · exact h
  have hq0 : 1 ≤ isq n := by
    obtain ⟨a, b⟩ := isq_spec n
    rcases Nat.eq_zero_or_pos (isq n) with h | h
    · rw [h] at b; omega
    · exact h
  have HQ0 := Lib.hid hq0
  have HQ1 := Lib.hid hq1
  have HN := Lib.hid hn
  clear hq0 hq1 hn h0
  go_enter Tryd.func97, Tryd.ntmps97
  go_wp2_with fail
  go_loopw [3] (RtRel n w) (fun v _ => (intOf v).toNat)
  case atStart => exact ⟨_, 10000000000000000000, rfl, Lib.hid (by omega), by omega, by omega, HQ1.out, Inv.one ht _ [_, _]⟩
  case round =>
    obtain ⟨ri, r, rfl, hri, r1, r2, r3, hI⟩ := hrel
    (have x0 : wr.cell? ⟨w.heap.size, 0, none⟩ = some (.int .u64 (hiW n : Int)) := (hI.own 0 _ rfl).cell 0; have x1 : wr.cell? ⟨w.heap.size, 1, none⟩ = some (.int .u64 (loW n : Int)) := (hI.own 0 _ rfl).cell 1; have xf := fun i => (hI.own 0 _ rfl).frozen i; have xl : w.heap.size < wr.heap.size := (hI.own 0 _ rfl).lt)
    (have wrt := hI.kept.1; have wrk := hI.kept; have wrg := hI.kept.1.lt; have wrg0 := hI.kept.1.lt0; have wrz := hI.kept.2.size)
    have HI := Lib.hid hI
    have R3 := Lib.hid r3
    clear hI r3
    have hr0 : 0 < r := by have := HQ0.out; have := R3.out; omega
    have hov := fun w ht => over_any n r w ht (by have := HN.out; omega) hr0 (by have := hri.out; omega)
    rw [← hri.out] at hov
    have hle := fun w ht => less_any (n / r) r w ht
    have eh : ((hiW r : Nat) : Int) = 0 := by unfold hiW; have := hri.out; omega
    have el : ((loW r : Nat) : Int) = ri := by unfold loW; have := hri.out; omega
    rw [eh, el] at hle
    obtain ⟨ql, hql⟩ : ∃ ql : Int, ql = (loW (n / r) : Int) := ⟨_, rfl⟩
    obtain ⟨qh, hqh⟩ : ∃ qh : Int, qh = (hiW (n / r) : Int) := ⟨_, rfl⟩
    rw [← hql, ← hqh] at hov hle
    have HO := 0
    clear eh el
    have nw := newton n r hr0
    have ns := fun h => newton_stop n r hr0 h R3.out
    clear HO
    have HO := hov
    clear hov
    generalize n / r = z at *
    have HO := Lib.hid HO
    by_cases hc : z < r
    · have hqr : ql = ((z : Nat) : Int) := by rw [hql]; unfold loW; have := hri.out; omega
      have hd : decide (z < r) = true := decide_eq_true hc
      rw [hd] at hle
      have HL := Lib.hid hle
      have hb1 : 0 ≤ ql := by omega
      have hb2 : ql < ri := by have := hri.out; omega
      have hnext : isq n ≤ (ql + (ri - ql) / 2).toNat := by
        have e1 : (ql + (ri - ql) / 2).toNat = z + (r - z) / 2 := by have := hri.out; omega
        rw [e1]
        rcases nw with h | h
        · exact h
        · omega
      have HX := Lib.hid hnext
      have hb3 : 1 ≤ ql + (ri - ql) / 2 := by have := HQ0.out; omega
      clear hle hd hc nw ns hql hqh hqr hr0 hnext
      go_wp2_with (first | (go_at_call 96; (with_reducible refine (HO.out _ (by repeat' (first | (with_reducible assumption) | (with_reducible refine Tab.alloc ?_ _) | (with_reducible refine Tab.drew ?_) | (with_reducible refine Tab.drewN ?_ _) | (with_reducible refine Tab.setCell ?_ ?_ ?_ _) | omega | (simp; done) | (simp; omega)))).mono ?_); rintro e w2 ⟨rfl, hk2⟩; obtain ⟨hc2, hf2⟩ := bcell hk2.2; have ht2 := hk2.1; have hz2 := hk2.2.size; (try simp only [World.size_alloc] at hz2); (try simp only [sz_drew] at hz2); (try simp only [sz_drewN] at hz2); (try simp only [World.size_alloc] at hz2); (try simp only [sz_drew] at hc2 hf2); (try simp only [sz_drewN] at hc2 hf2); (try have hw2 : w.heap.size < w2.heap.size := by omega); (try have hv2 : w.heap.size + 1 < w2.heap.size := by omega); (try have hu2 : w.heap.size + 2 < w2.heap.size := by omega)) | (go_at_call 101; (with_reducible refine (HL.out _ (by repeat' (first | (with_reducible assumption) | (with_reducible refine Tab.alloc ?_ _) | (with_reducible refine Tab.drew ?_) | (with_reducible refine Tab.drewN ?_ _) | (with_reducible refine Tab.setCell ?_ ?_ ?_ _) | omega | (simp; done) | (simp; omega)))).mono ?_); rintro e w3 ⟨rfl, hk3⟩; obtain ⟨hc3, hf3⟩ := bcell hk3.2; have ht3 := hk3.1; have hz3 := hk3.2.size; (try simp only [World.size_alloc] at hz3); (try simp only [sz_drew] at hz3); (try simp only [sz_drewN] at hz3); (try simp only [World.size_alloc] at hz3); (try simp only [sz_drew] at hc3 hf3); (try simp only [sz_drewN] at hc3 hf3); (try have hw3 : w.heap.size < w3.heap.size := by omega); (try have hv3 : w.heap.size + 1 < w3.heap.size := by omega); (try have hu3 : w.heap.size + 2 < w3.heap.size := by omega)))
      go_roundw
      case rel => exact ⟨_, (ql + (ri - ql) / 2).toNat, rfl, Lib.hid (by omega), by omega, by omega, HX.out, ((HI.out.call hk2).alloc _).call hk3⟩
      case measure => simp [intOf]; omega
    · have hd : decide (z < r) = false := decide_eq_false hc
      rw [hd] at hle
      have HL := Lib.hid hle
      have hst := ns (by omega)
      have HS : Hid (ri = (isq n : Int)) := Lib.hid (by rw [hri.out]; congr 1)
      clear hle hd hc nw ns hql hqh hr0 hst
      go_wp2_with (first | (go_at_call 96; (with_reducible refine (HO.out _ (by repeat' (first | (with_reducible assumption) | (with_reducible refine Tab.alloc ?_ _) | (with_reducible refine Tab.drew ?_) | (with_reducible refine Tab.drewN ?_ _) | (with_reducible refine Tab.setCell ?_ ?_ ?_ _) | omega | (simp; done) | (simp; omega)))).mono ?_); rintro e w2 ⟨rfl, hk2⟩; obtain ⟨hc2, hf2⟩ := bcell hk2.2; have ht2 := hk2.1; have hz2 := hk2.2.size; (try simp only [World.size_alloc] at hz2); (try simp only [sz_drew] at hz2); (try simp only [sz_drewN] at hz2); (try simp only [World.size_alloc] at hz2); (try simp only [sz_drew] at hc2 hf2); (try simp only [sz_drewN] at hc2 hf2); (try have hw2 : w.heap.size < w2.heap.size := by omega); (try have hv2 : w.heap.size + 1 < w2.heap.size := by omega); (try have hu2 : w.heap.size + 2 < w2.heap.size := by omega)) | (go_at_call 101; (with_reducible refine (HL.out _ (by repeat' (first | (with_reducible assumption) | (with_reducible refine Tab.alloc ?_ _) | (with_reducible refine Tab.drew ?_) | (with_reducible refine Tab.drewN ?_ _) | (with_reducible refine Tab.setCell ?_ ?_ ?_ _) | omega | (simp; done) | (simp; omega)))).mono ?_); rintro e w3 ⟨rfl, hk3⟩; obtain ⟨hc3, hf3⟩ := bcell hk3.2; have ht3 := hk3.1; have hz3 := hk3.2.size; (try simp only [World.size_alloc] at hz3); (try simp only [sz_drew] at hz3); (try simp only [sz_drewN] at hz3); (try simp only [World.size_alloc] at hz3); (try simp only [sz_drew] at hc3 hf3); (try simp only [sz_drewN] at hc3 hf3); (try have hw3 : w.heap.size < w3.heap.size := by omega); (try have hv3 : w.heap.size + 1 < w3.heap.size := by omega); (try have hu3 : w.heap.size + 2 < w3.heap.size := by omega)))
      go_returns
      exact ⟨by rw [← HS.out]; rfl, ((HI.out.kept.trans hk2).alloc _).trans hk3⟩
end Go.Proofs.YtcmgphfcpgebfaaDoor
