/- Absolute values and numbers of digits, in the program. Condition: the tables hold what their initialisers lay. -/
import Derived.Test.YtcmgphfcpgebfaaDoorOver
namespace Go.Proofs.YtcmgphfcpgebfaaDoor
open Go.ChangeShapes Go.WideShapes Go.ChangeAt Go.RowKit

theorem log_tab : ∀ b : Fin 65, 2 ^ b.val ≤ 10 ^ (b.val * 1233 / 4096 + 1) ∧ (b.val * 1233 / 4096 = 0 ∨ 10 ^ (b.val * 1233 / 4096 - 1) ≤ 2 ^ (b.val - 1)) ∧ b.val * 1233 / 4096 < 20 := by decide
theorem dg_log (n : Nat) (h : n < 18446744073709551616) : Lib.bitLen n ≤ 64 ∧ Lib.bitLen n * 1233 / 4096 < 20 ∧ dg n = Lib.bitLen n * 1233 / 4096 + if tn (Lib.bitLen n * 1233 / 4096) ≤ n then 1 else 0 := by
  by_cases h0 : n = 0
  · subst h0
    rw [show Lib.bitLen 0 = 0 by decide, dg_zero]
    simp [tn]
  obtain ⟨a, b, c, d⟩ := bitLenAux_spec 64 n (by simpa using h)
  change n < 2 ^ Lib.bitLen n at a
  change n ≠ 0 → 2 ^ (Lib.bitLen n - 1) ≤ n at b
  change Lib.bitLen n ≤ 64 at c
  have b := b h0
  clear d
  obtain ⟨e, f, g⟩ := log_tab ⟨Lib.bitLen n, by omega⟩
  simp only at e f g
  refine ⟨c, g, ?_⟩
  generalize Lib.bitLen n = k at *
  generalize k * 1233 / 4096 = x at *
  unfold tn
  by_cases hx : 10 ^ x ≤ n
  · rw [if_pos hx]
    exact dg_eq hx (Nat.lt_of_lt_of_le a e)
  · rw [if_neg hx, Nat.add_zero]
    rcases Nat.eq_zero_or_pos x with h3 | h3
    · subst h3; simp at hx; omega
    · obtain ⟨y, rfl⟩ := Nat.exists_eq_succ_of_ne_zero (show x ≠ 0 by omega)
      rcases f with f | f
      · omega
      · exact dg_eq (Nat.le_trans f b) (Nat.lt_of_not_le hx)

theorem digitsOf_any (n : Nat) (w : World) (ht : Tab w) (h : n < 18446744073709551616) : Calls Tryd.prog 46 #[.int .u64 (n : Int)] w fun e w' => e = .returned (.int .i64 (dg n : Int)) ∧ w = w' := by
  have hlt := ht.lt
  obtain ⟨h1, h2, h3⟩ := dg_log n h
  have hc := ht.tens _ h2
  obtain ⟨x, hx⟩ : ∃ x : Int, x = (Lib.bitLen n : Int) := ⟨_, rfl⟩
  have hd : x * 1233 / 4096 = ((Lib.bitLen n * 1233 / 4096 : Nat) : Int) := by omega
  have hx0 : 0 ≤ x := by omega
  have hx1 : x ≤ 64 := by omega
  generalize Lib.bitLen n * 1233 / 4096 = d at *
  have hd2 : (d : Int) < 20 := by omega
  have H3 := Lib.hid h3
  clear h1 h2 h3
  have HX := Lib.hid hx
  clear hx
  by_cases hcmp : tn d ≤ n
  · rw [if_pos hcmp] at H3
    go_enter Tryd.func46, Tryd.ntmps46
    go_wp2_with (go_at_call 76; refine (Tryd.bits_Len64 (n : Int) _ (by omega) (by omega)).mono ?_; rintro e w1 ⟨rfl, rfl⟩; simp only [Int.toNat_natCast]; rw [← HX.out])
    go_returns
    exact ⟨by rw [H3.out]; simp, rfl⟩
  · rw [if_neg hcmp] at H3
    have hcmp' : decide (tn d ≤ n) = false := decide_eq_false hcmp
    go_enter Tryd.func46, Tryd.ntmps46
    go_wp2_with (go_at_call 76; refine (Tryd.bits_Len64 (n : Int) _ (by omega) (by omega)).mono ?_; rintro e w1 ⟨rfl, rfl⟩; simp only [Int.toNat_natCast]; rw [← HX.out])
    go_returns
    exact ⟨by rw [H3.out]; simp, rfl⟩

/-- The absolute value. -/
def mag (m : Int) : Nat := m.natAbs
theorem magnitude_any (m : Int) (w : World) (lo : -9223372036854775808 ≤ m) (hi : m ≤ 9223372036854775807) : Calls Tryd.prog 47 #[.int .i64 m] w fun e w' => e = .returned (.int .u64 (mag m : Int)) ∧ w = w' := by
  rcases (by omega : m < 0 ∨ 0 ≤ m) with h | h
  · have e1 : IntKind.u64.wrap (-(IntKind.u64.wrap m)) = (mag m : Int) := by unfold mag; rw [IntKind.wrap_u64, IntKind.wrap_u64]; omega
    go_enter Tryd.func47, Tryd.ntmps47
    go_wp2
    go_returns
    exact ⟨rfl, rfl⟩
  · have e1 : (mag m : Int) = m := by unfold mag; omega
    rw [e1]
    clear e1
    have h' : ¬ m < 0 := by omega
    go_enter Tryd.func47, Tryd.ntmps47
    go_wp2
    go_returns
    exact ⟨rfl, rfl⟩

/-- The number of digits of a natural number. -/
theorem digits_any (n : Nat) (w : World) (ht : Tab w) (h : n < 340282366920938463463374607431768211456) : Calls Tryd.prog 79 #[.agg #[.int .u64 (hiW n : Int), .int .u64 (loW n : Int)]] w fun e w' => e = .returned (.int .i64 (dg n : Int)) ∧ Kept w w' := by
  induction n using Nat.strongRecOn generalizing w with
  | ind n ih =>
    have hlt := ht.lt
    have l1 := lo_lt n
    by_cases h0 : hiW n = 0
    · have hn : loW n = n := by have := nat_eq n; rw [h0] at this; omega
      rw [h0, hn]
      have l2 : n < 18446744073709551616 := by rw [← hn]; exact l1
      clear hn h0 l1
      go_enter Tryd.func79, Tryd.ntmps79
      go_wp2_with (first | (go_at_call 46; (with_reducible refine (digitsOf_any n _ (by repeat' (first | (with_reducible assumption) | (with_reducible refine Tab.alloc ?_ _) | (with_reducible refine Tab.drew ?_) | (with_reducible refine Tab.drewN ?_ _) | (with_reducible refine Tab.setCell ?_ ?_ ?_ _) | omega | (simp; done) | (simp; omega))) l2).mono ?_); rintro e w' ⟨rfl, rfl⟩))
      go_returns
      exact ⟨rfl, (by repeat' (first | (with_reducible assumption) | (with_reducible exact Kept.refl ht) | (with_reducible refine Kept.alloc ?_ _) | (with_reducible refine Kept.drew ?_) | (with_reducible refine Kept.drewN ?_ _) | (with_reducible refine Kept.setCell ?_ ?_ _ ?_ ?_) | (with_reducible refine Kept.trans ?_ (by assumption)) | omega | (simp; done) | (simp; omega)))⟩
    · have hq : 18446744073709551616 ≤ n := by have := nat_eq n; omega
      have hdq := dg_div n 19
      have ht19 := ht.tens 19 (by omega)
      have he : dg (n / tn 19) = dg n - 19 := hdq
      have hbig : 20 ≤ dg n := by
        rcases Nat.lt_or_ge 19 (dg n) with h | h
        · exact h
        · have := (dg_iff n 19).1 h; simp at this; omega
      have hi := ih (n / tn 19) (Nat.div_lt_self (by omega) (by decide))
      have ht19' : tn 19 < 18446744073709551616 := by decide
      have hlq : n / tn 19 < 340282366920938463463374607431768211456 := Nat.lt_of_le_of_lt (Nat.div_le_self _ _) h
      have hd : (dg n : Int) = 19 + ((dg n - 19 : Nat) : Int) := by omega
      rw [hd]
      rw [← he]
      have hb : dg (n / tn 19) ≤ 39 := by rw [he]; have := (dg_iff n 39).2 (by simp; omega); omega
      have HI := Lib.hid hi
      clear hi hd he hdq ih
      have h0' : ¬ (hiW n : Int) = 0 := by omega
      go_enter Tryd.func79, Tryd.ntmps79
      go_wp2_with (first | (go_at_call 96; (with_reducible refine (over_any n (tn 19) _ (by repeat' (first | (with_reducible assumption) | (with_reducible refine Tab.alloc ?_ _) | (with_reducible refine Tab.drew ?_) | (with_reducible refine Tab.drewN ?_ _) | (with_reducible refine Tab.setCell ?_ ?_ ?_ _) | omega | (simp; done) | (simp; omega))) h (by decide) ht19').mono ?_); rintro e w1 ⟨rfl, hk1⟩; obtain ⟨hc1, hf1⟩ := bcell hk1.2; have ht1 := hk1.1; have hz1 := hk1.2.size; (try simp only [World.size_alloc] at hz1); (try simp only [sz_drew] at hz1); (try simp only [sz_drewN] at hz1); (try simp only [World.size_alloc] at hz1); (try simp only [sz_drew] at hc1 hf1); (try simp only [sz_drewN] at hc1 hf1); (try have hw1 : w.heap.size < w1.heap.size := by omega); (try have hv1 : w.heap.size + 1 < w1.heap.size := by omega); (try have hu1 : w.heap.size + 2 < w1.heap.size := by omega)) | (go_at_call 79; (with_reducible refine (HI.out _ (by repeat' (first | (with_reducible assumption) | (with_reducible refine Tab.alloc ?_ _) | (with_reducible refine Tab.drew ?_) | (with_reducible refine Tab.drewN ?_ _) | (with_reducible refine Tab.setCell ?_ ?_ ?_ _) | omega | (simp; done) | (simp; omega))) hlq).mono ?_); rintro e w2 ⟨rfl, hk2⟩; obtain ⟨hc2, hf2⟩ := bcell hk2.2; have ht2 := hk2.1; have hz2 := hk2.2.size; (try simp only [World.size_alloc] at hz2); (try simp only [sz_drew] at hz2); (try simp only [sz_drewN] at hz2); (try simp only [World.size_alloc] at hz2); (try simp only [sz_drew] at hc2 hf2); (try simp only [sz_drewN] at hc2 hf2); (try have hw2 : w.heap.size < w2.heap.size := by omega); (try have hv2 : w.heap.size + 1 < w2.heap.size := by omega); (try have hu2 : w.heap.size + 2 < w2.heap.size := by omega)))
      go_returns
      exact ⟨rfl, (by repeat' (first | (with_reducible assumption) | (with_reducible exact Kept.refl ht) | (with_reducible refine Kept.alloc ?_ _) | (with_reducible refine Kept.drew ?_) | (with_reducible refine Kept.drewN ?_ _) | (with_reducible refine Kept.setCell ?_ ?_ _ ?_ ?_) | (with_reducible refine Kept.trans ?_ (by assumption)) | omega | (simp; done) | (simp; omega)))⟩
end Go.Proofs.YtcmgphfcpgebfaaDoor
