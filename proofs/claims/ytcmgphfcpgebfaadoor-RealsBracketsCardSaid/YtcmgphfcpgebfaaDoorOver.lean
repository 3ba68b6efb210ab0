/- What the program's quotient of a natural number of 128 bits by a word is. Conditions: the tables; the divisor is not 0. -/
import Derived.Test.YtcmgphfcpgebfaaDoorDivA
import Derived.Test.YtcmgphfcpgebfaaDoorNat
namespace Go.Proofs.YtcmgphfcpgebfaaDoor
open Go.ChangeShapes Go.WideShapes Go.ChangeAt Go.RowKit

theorem split_div (hi lo d B : Nat) (hd : 0 < d) (hl : lo < B) : (hi * B + lo) / d = hi / d * B + (hi % d * B + lo) / d ∧ (hi * B + lo) % d = (hi % d * B + lo) % d ∧ (hi % d * B + lo) / d < B := by
  have h := Nat.div_add_mod hi d
  have hm := Nat.mod_lt hi hd
  generalize hi / d = a at *
  generalize hi % d = g at *
  subst h
  have e : (d * a + g) * B + lo = g * B + lo + d * (a * B) := by rw [Nat.add_mul, Nat.mul_assoc]; omega
  rw [e, Nat.add_mul_div_left _ _ hd, Nat.add_mul_mod_self_left]
  refine ⟨Nat.add_comm _ _, rfl, ?_⟩
  rw [Nat.div_lt_iff_lt_mul hd]
  have : (g + 1) * B ≤ d * B := Nat.mul_le_mul_right _ hm
  rw [Nat.add_mul, Nat.one_mul] at this
  rw [Nat.mul_comm B d]
  omega
theorem over_parts (n d : Nat) (hd : 0 < d) : hiW n / d = hiW (n / d) ∧ (hiW n % d * 18446744073709551616 + loW n) / d = loW (n / d) ∧ (hiW n % d * 18446744073709551616 + loW n) % d = n % d := by
  obtain ⟨a, b, c⟩ := split_div (hiW n) (loW n) d 18446744073709551616 hd (lo_lt n)
  rw [← nat_eq n] at a b
  obtain ⟨x, y⟩ := wide a c
  exact ⟨x, y, b.symm⟩

theorem div64_q (h l y : Nat) (w : World) (n : Nat) (hl : l < 18446744073709551616) (hy : y < 18446744073709551616) (hh : h < y) :
    Calls Tryd.prog 105 #[.int .u64 (h : Int), .int .u64 (l : Int), .int .u64 (y : Int)] (w.drewN n) fun e w' => e = .returned (.tuple #[.int .u64 (((h * 18446744073709551616 + l) / y : Nat) : Int), .int .u64 (((h * 18446744073709551616 + l) % y : Nat) : Int)]) ∧ ∃ m, w' = w.drewN m :=
  (div64_any h l y _ hl hy hh).mono fun _ _ ⟨he, m, hm⟩ => ⟨he, n + m, by rw [hm, World.drewN_drewN]⟩

set_option maxHeartbeats 1000000 in
theorem over_any (n d : Nat) (w : World) (ht : Tab w) (hn : n < 340282366920938463463374607431768211456) (hd : 0 < d) (hd1 : d < 18446744073709551616) :
    Calls Tryd.prog 96 #[.agg #[.int .u64 (hiW n : Int), .int .u64 (loW n : Int)], .int .u64 (d : Int)] w fun e w' => e = .returned (.tuple #[.agg #[.int .u64 (hiW (n / d) : Int), .int .u64 (loW (n / d) : Int)], .int .u64 ((n % d : Nat) : Int)]) ∧ Kept w w' := by
  have hlt := ht.lt
  obtain ⟨p1, p2, p3⟩ := over_parts n d hd
  have l1 := lo_lt n
  have l2 := hi_lt hn
  have l3 := Nat.mod_lt (hiW n) hd
  have hq := fun w k => div64_q (hiW n % d) (loW n) d w k l1 hd1 l3
  rw [p2, p3] at hq
  have e1 : (hiW n : Int) / (d : Int) = (hiW (n / d) : Int) := by rw [← p1]; simp
  have e2 : Int.tmod (hiW n : Int) (d : Int) = ((hiW n % d : Nat) : Int) := rfl
  have hd0 : ((d : Int) == 0) = false := by rw [beq_eq_false_iff_ne]; omega
  have b1 : hiW (n / d) < 18446744073709551616 := by rw [← p1]; exact Nat.lt_of_le_of_lt (Nat.div_le_self _ _) l2
  generalize hgr : n % d = r at *
  generalize hgg : hiW n % d = g at *
  clear p1 p2 p3 hgr
  have hQ := Lib.hid hq
  clear hq
  go_enter Tryd.func96, Tryd.ntmps96
  go_wp2
  go_quiet ((go_at_call 105; exact hQ.out _ _))
  go_wp2
  go_returns
  exact ⟨rfl, (by repeat' (first | (with_reducible assumption) | (with_reducible exact Kept.refl ht) | (with_reducible refine Kept.alloc ?_ _) | (with_reducible refine Kept.drew ?_) | (with_reducible refine Kept.drewN ?_ _) | (with_reducible refine Kept.setCell ?_ ?_ _ ?_ ?_) | (with_reducible refine Kept.trans ?_ (by assumption)) | omega | (simp; done) | (simp; omega)))⟩
end Go.Proofs.YtcmgphfcpgebfaaDoor
