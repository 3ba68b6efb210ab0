/- What the program's natural numbers of 128 bits compute: tests, sums, differences, products. Condition: the tables hold what their initialisers lay. -/
import Derived.Test.YtcmgphfcpgebfaaDoorBits
namespace Go.Proofs.YtcmgphfcpgebfaaDoor
open Go.ChangeShapes Go.WideShapes Go.ChangeAt Go.RowKit

theorem isZero_any (n : Nat) (w : World) (ht : Tab w) : Calls Tryd.prog 78 #[.agg #[.int .u64 (hiW n : Int), .int .u64 (loW n : Int)]] w fun e w' => e = .returned (.bool (decide (n = 0))) ∧ Kept w w' := by
  have hlt := ht.lt
  go_enter Tryd.func78, Tryd.ntmps78
  go_wp2
  all_goals
    go_returns
    refine ⟨?_, (by repeat' (first | (with_reducible assumption) | (with_reducible exact Kept.refl ht) | (with_reducible refine Kept.alloc ?_ _) | (with_reducible refine Kept.drew ?_) | (with_reducible refine Kept.drewN ?_ _) | (with_reducible refine Kept.setCell ?_ ?_ _ ?_ ?_) | (with_reducible refine Kept.trans ?_ (by assumption)) | omega | (simp; done) | (simp; omega)))⟩
    have hn := nat_eq n
    simp
    omega

theorem less_any (n m : Nat) (w : World) (ht : Tab w) : Calls Tryd.prog 101 #[.agg #[.int .u64 (hiW n : Int), .int .u64 (loW n : Int)], .agg #[.int .u64 (hiW m : Int), .int .u64 (loW m : Int)]] w fun e w' => e = .returned (.bool (decide (n < m))) ∧ Kept w w' := by
  have hlt := ht.lt
  have l1 := lo_lt n
  have l2 := lo_lt m
  have hn := Lib.hid (nat_eq n)
  have hm := Lib.hid (nat_eq m)
  rcases Nat.lt_trichotomy (hiW n) (hiW m) with h | h | h
  · have g : decide (n < m) = true := decide_eq_true (by have := hn.out; have := hm.out; omega)
    rw [g]
    go_enter Tryd.func101, Tryd.ntmps101
    go_wp2
    go_returns
    exact ⟨rfl, (by repeat' (first | (with_reducible assumption) | (with_reducible exact Kept.refl ht) | (with_reducible refine Kept.alloc ?_ _) | (with_reducible refine Kept.drew ?_) | (with_reducible refine Kept.drewN ?_ _) | (with_reducible refine Kept.setCell ?_ ?_ _ ?_ ?_) | (with_reducible refine Kept.trans ?_ (by assumption)) | omega | (simp; done) | (simp; omega)))⟩
  · rcases Nat.lt_or_ge (loW n) (loW m) with h2 | h2
    · have g : decide (n < m) = true := decide_eq_true (by have := hn.out; have := hm.out; omega)
      rw [g]
      go_enter Tryd.func101, Tryd.ntmps101
      go_wp2
      go_returns
      exact ⟨rfl, (by repeat' (first | (with_reducible assumption) | (with_reducible exact Kept.refl ht) | (with_reducible refine Kept.alloc ?_ _) | (with_reducible refine Kept.drew ?_) | (with_reducible refine Kept.drewN ?_ _) | (with_reducible refine Kept.setCell ?_ ?_ _ ?_ ?_) | (with_reducible refine Kept.trans ?_ (by assumption)) | omega | (simp; done) | (simp; omega)))⟩
    · have g : decide (n < m) = false := decide_eq_false (by have := hn.out; have := hm.out; omega)
      rw [g]
      have h3 : decide (loW n < loW m) = false := decide_eq_false (by omega)
      go_enter Tryd.func101, Tryd.ntmps101
      go_wp2
      go_returns
      exact ⟨by simp; try omega, (by repeat' (first | (with_reducible assumption) | (with_reducible exact Kept.refl ht) | (with_reducible refine Kept.alloc ?_ _) | (with_reducible refine Kept.drew ?_) | (with_reducible refine Kept.drewN ?_ _) | (with_reducible refine Kept.setCell ?_ ?_ _ ?_ ?_) | (with_reducible refine Kept.trans ?_ (by assumption)) | omega | (simp; done) | (simp; omega)))⟩
  · have g : decide (n < m) = false := decide_eq_false (by have := hn.out; have := hm.out; omega)
    rw [g]
    have h3 : decide (hiW n < hiW m) = false := decide_eq_false (by omega)
    have h4 : ¬ hiW n = hiW m := by omega
    go_enter Tryd.func101, Tryd.ntmps101
    go_wp2
    go_returns
    exact ⟨by simp; try omega, (by repeat' (first | (with_reducible assumption) | (with_reducible exact Kept.refl ht) | (with_reducible refine Kept.alloc ?_ _) | (with_reducible refine Kept.drew ?_) | (with_reducible refine Kept.drewN ?_ _) | (with_reducible refine Kept.setCell ?_ ?_ _ ?_ ?_) | (with_reducible refine Kept.trans ?_ (by assumption)) | omega | (simp; done) | (simp; omega)))⟩

theorem plus_any (n m : Nat) (w : World) (ht : Tab w) (h : n + m < 340282366920938463463374607431768211456) : Calls Tryd.prog 82 #[.agg #[.int .u64 (hiW n : Int), .int .u64 (loW n : Int)], .agg #[.int .u64 (hiW m : Int), .int .u64 (loW m : Int)]] w fun e w' => e = .returned (.agg #[.int .u64 (hiW (n + m) : Int), .int .u64 (loW (n + m) : Int)]) ∧ Kept w w' := by
  have hlt := ht.lt
  have hn := nat_eq n
  have hm := nat_eq m
  have l1 := lo_lt n
  have l2 := lo_lt m
  have k0 : (0 : Int) ≤ ((loW n : Int) + loW m) / 18446744073709551616 := by omega
  have k1 : ((loW n : Int) + loW m) / 18446744073709551616 ≤ 1 := by omega
  have e1 : ((loW n : Int) + loW m) % 18446744073709551616 = (loW (n + m) : Nat) := by unfold loW at *; omega
  have e2 : ((hiW n : Int) + hiW m + ((loW n : Int) + loW m) / 18446744073709551616) % 18446744073709551616 = (hiW (n + m) : Nat) := by unfold loW hiW at *; omega
  have H1 := Lib.hid e1
  have H2 := Lib.hid e2
  clear hn hm e1 e2 h
  go_enter Tryd.func82, Tryd.ntmps82
  go_wp2_with (first | simp only [add64_0 (loW n : Int) (loW m : Int) (by omega) (by omega)] | simp only [add64 (hiW n : Int) (hiW m : Int) _ (by omega) (by omega) k0 k1])
  rw [H1.out, H2.out]
  go_returns
  exact ⟨rfl, (by repeat' (first | (with_reducible assumption) | (with_reducible exact Kept.refl ht) | (with_reducible refine Kept.alloc ?_ _) | (with_reducible refine Kept.drew ?_) | (with_reducible refine Kept.drewN ?_ _) | (with_reducible refine Kept.setCell ?_ ?_ _ ?_ ?_) | (with_reducible refine Kept.trans ?_ (by assumption)) | omega | (simp; done) | (simp; omega)))⟩

theorem minus_any (n m : Nat) (w : World) (ht : Tab w) (h : m ≤ n) (hb : n < 340282366920938463463374607431768211456) : Calls Tryd.prog 104 #[.agg #[.int .u64 (hiW n : Int), .int .u64 (loW n : Int)], .agg #[.int .u64 (hiW m : Int), .int .u64 (loW m : Int)]] w fun e w' => e = .returned (.agg #[.int .u64 (hiW (n - m) : Int), .int .u64 (loW (n - m) : Int)]) ∧ Kept w w' := by
  have hlt := ht.lt
  have hn := nat_eq n
  have hm := nat_eq m
  have l1 := lo_lt n
  have l2 := lo_lt m
  have l3 := hi_lt hb
  have l4 : hiW m ≤ hiW n := by unfold hiW; omega
  have k0 : 0 ≤ bor (loW n : Int) (loW m) := by unfold bor; split <;> omega
  have k1 : bor (loW n : Int) (loW m) ≤ 1 := by unfold bor; split <;> omega
  have e1 : ((loW n : Int) - loW m) % 18446744073709551616 = (loW (n - m) : Nat) := by unfold loW at *; omega
  have e2 : ((hiW n : Int) - hiW m - bor (loW n : Int) (loW m)) % 18446744073709551616 = (hiW (n - m) : Nat) := by
    unfold bor; unfold loW hiW at *; split <;> omega
  have H1 := Lib.hid e1
  have H2 := Lib.hid e2
  clear hn hm e1 e2 h hb
  go_enter Tryd.func104, Tryd.ntmps104
  go_wp2_with (first | simp only [sub64_0 (loW n : Int) (loW m : Int) (by omega) (by omega) (by omega)] | simp only [sub64 (hiW n : Int) (hiW m : Int) _ (by omega) (by omega) (by omega) k0 k1])
  rw [H1.out, H2.out]
  go_returns
  exact ⟨rfl, (by repeat' (first | (with_reducible assumption) | (with_reducible exact Kept.refl ht) | (with_reducible refine Kept.alloc ?_ _) | (with_reducible refine Kept.drew ?_) | (with_reducible refine Kept.drewN ?_ _) | (with_reducible refine Kept.setCell ?_ ?_ _ ?_ ?_) | (with_reducible refine Kept.trans ?_ (by assumption)) | omega | (simp; done) | (simp; omega)))⟩

theorem times_any (n f : Nat) (w : World) (ht : Tab w) (hf : f < 18446744073709551616) (h : n * f < 340282366920938463463374607431768211456) : Calls Tryd.prog 90 #[.agg #[.int .u64 (hiW n : Int), .int .u64 (loW n : Int)], .int .u64 (f : Int)] w fun e w' => e = .returned (.agg #[.int .u64 (hiW (n * f) : Int), .int .u64 (loW (n * f) : Int)]) ∧ Kept w w' := by
  have hlt := ht.lt
  have hn := nat_eq n
  have l1 := lo_lt n
  have em : n * f = hiW n * f * 18446744073709551616 + loW n * f := by
    conv => lhs; rw [hn, Nat.add_mul, Nat.mul_assoc, Nat.mul_comm 18446744073709551616 f, ← Nat.mul_assoc]
  have e1 : (loW n : Int) * (f : Int) % 18446744073709551616 = (loW (n * f) : Nat) := by
    rw [← Int.natCast_mul]
    unfold loW at *; rw [em]; generalize hiW n * f = a at *; generalize n % 18446744073709551616 * f = b at *; omega
  have e2 : (loW n : Int) * (f : Int) / 18446744073709551616 + (hiW n : Int) * (f : Int) = (hiW (n * f) : Nat) := by
    rw [← Int.natCast_mul, ← Int.natCast_mul]
    unfold hiW; unfold hiW at em; rw [em]; generalize n / 18446744073709551616 * f = a at *; generalize loW n * f = b at *; omega
  have b0 : (0 : Int) ≤ (hiW n : Int) * (f : Int) := by rw [← Int.natCast_mul]; omega
  have b1 : (hiW n : Int) * (f : Int) ≤ 18446744073709551615 := by rw [← Int.natCast_mul]; generalize hiW n * f = a at *; omega
  have b2 : (loW n : Int) * (f : Int) / 18446744073709551616 + (hiW n : Int) * (f : Int) ≤ 18446744073709551615 := by
    rw [e2]; have := hi_lt h; omega
  have H1 := Lib.hid e1
  have H2 := Lib.hid e2
  have H3 := Lib.hid (Mul64.wrapN _ (hi_lt h))
  clear hn em e1 e2 h
  go_enter Tryd.func90, Tryd.ntmps90
  go_wp2_with (go_at_call 103; refine (Tryd.bits_Mul64 (loW n) f l1 hf _).mono ?_; rintro e w1 ⟨rfl, rfl⟩)
  rw [H1.out, H2.out, H3.out]
  go_returns
  exact ⟨rfl, (by repeat' (first | (with_reducible assumption) | (with_reducible exact Kept.refl ht) | (with_reducible refine Kept.alloc ?_ _) | (with_reducible refine Kept.drew ?_) | (with_reducible refine Kept.drewN ?_ _) | (with_reducible refine Kept.setCell ?_ ?_ _ ?_ ?_) | (with_reducible refine Kept.trans ?_ (by assumption)) | omega | (simp; done) | (simp; omega)))⟩
end Go.Proofs.YtcmgphfcpgebfaaDoor
