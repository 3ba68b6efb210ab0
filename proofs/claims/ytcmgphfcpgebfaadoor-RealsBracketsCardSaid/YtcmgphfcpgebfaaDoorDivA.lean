/- math/bits.Div64 at this program returns quotient and remainder. Condition: the high word is below the divisor (else Go panics). -/
import Derived.Test.YtcmgphfcpgebfaaDoorDiv
namespace Go.Proofs.YtcmgphfcpgebfaaDoor
open Go.ChangeShapes Go.WideShapes Go.ChangeAt Go.RowKit

theorem end_eq {a b c d : Int} (h1 : a = c) (h2 : b = d) : Ending.returned (.tuple #[.int .u64 a, .int .u64 b]) = .returned (.tuple #[.int .u64 c, .int .u64 d]) := by rw [h1, h2]
theorem wrapM (a : Nat) : IntKind.u64.wrap (a : Int) = ((a % 18446744073709551616 : Nat) : Int) := by rw [IntKind.wrap_u64]; omega
theorem left_wrap (X B Y : Nat) (hY : Y < 18446744073709551616) (h0 : 0 < Y) (hB : B = X / Y * Y % 18446744073709551616) : IntKind.u64.wrap (((X % 18446744073709551616 : Nat) : Int) - (B : Int)) = ((X % Y : Nat) : Int) := by
  have hd := Nat.div_add_mod X Y
  have hm := Nat.mod_lt X h0
  rw [Nat.mul_comm] at hd
  rw [IntKind.wrap_u64]
  subst hB
  generalize X / Y * Y = a at *
  generalize X % Y = b at *
  omega

theorem half_split (x : Nat) : x / 4294967296 * 4294967296 + x % 4294967296 = x := by omega
theorem join_two (U v1 v0 Lw X1 : Nat) (h1 : X1 = U * 4294967296 + v1) (h2 : v1 * 4294967296 + v0 = Lw) : U * 18446744073709551616 + Lw = X1 * 4294967296 + v0 := by
  rw [h1, Nat.add_mul, Nat.mul_assoc, Nat.add_assoc, h2]

theorem div64_pos (h l y : Nat) (w : World) (hl : l < 18446744073709551616) (hy : y < 18446744073709551616) (h0 : 0 < h) (hh : h < y) :
    Calls Tryd.prog 105 #[.int .u64 (h : Int), .int .u64 (l : Int), .int .u64 (y : Int)] w fun e w' => e = .returned (.tuple #[.int .u64 (((h * 18446744073709551616 + l) / y : Nat) : Int), .int .u64 (((h * 18446744073709551616 + l) % y : Nat) : Int)]) ∧ w = w' := by
  obtain ⟨n1, n2, n3⟩ := nz_spec y (by omega) hy
  have hz : Lib.bitLen y = 64 - nz y := by have := (bitLenAux_spec 64 y (by simpa using hy)).2.2.1; unfold nz; change Lib.bitLen y ≤ 64 at this; omega
  generalize nz y = s at *
  have hP : 0 < 2 ^ s := Nat.pow_pos (by omega)
  have hPQ : 2 ^ (64 - s) * 2 ^ s = 18446744073709551616 := by rw [← Nat.pow_add, show 64 - s + s = 64 by omega]
  have hH : h * 2 ^ s + 2 ^ s ≤ y * 2 ^ s := by have := Nat.mul_le_mul_right (2 ^ s) hh; rwa [Nat.succ_mul] at this
  have hlq : l / 2 ^ (64 - s) < 2 ^ s := by rw [Nat.div_lt_iff_lt_mul (Nat.pow_pos (by omega)), Nat.mul_comm, hPQ]; exact hl
  have hsplit : l * 2 ^ s = l / 2 ^ (64 - s) * 18446744073709551616 + l * 2 ^ s % 18446744073709551616 := by
    have := Nat.div_add_mod (l * 2 ^ s) 18446744073709551616
    rw [← hPQ, Nat.mul_div_mul_right _ _ hP, Nat.mul_comm _ (l / _), hPQ] at this
    exact this.symm
  have hor : h * 2 ^ s ||| l / 2 ^ (64 - s) = h * 2 ^ s + l / 2 ^ (64 - s) := by rw [Nat.mul_comm]; exact (Nat.two_pow_add_eq_or_of_lt hlq h).symm
  have hU : (h * 18446744073709551616 + l) * 2 ^ s = (h * 2 ^ s + l / 2 ^ (64 - s)) * 18446744073709551616 + l * 2 ^ s % 18446744073709551616 := by
    rw [Nat.add_mul, Nat.add_mul, Nat.mul_right_comm]; omega
  have hL := Nat.mod_lt (l * 2 ^ s) (show 0 < 18446744073709551616 by omega)
  have hdiv := scaled (h * 18446744073709551616 + l) y (2 ^ s) hP
  rw [hU] at hdiv
  generalize hYe : y * 2 ^ s = Y at *
  generalize hHe : h * 2 ^ s = H at *
  generalize hle : l / 2 ^ (64 - s) = lq at *
  generalize hLe : l * 2 ^ s % 18446744073709551616 = Lw at *
  obtain ⟨y1, hy1⟩ : ∃ y1, y1 = Y / 4294967296 := ⟨_, rfl⟩
  obtain ⟨y0, hy0⟩ : ∃ y0, y0 = Y % 4294967296 := ⟨_, rfl⟩
  obtain ⟨v1, hv1⟩ : ∃ v1, v1 = Lw / 4294967296 := ⟨_, rfl⟩
  obtain ⟨v0, hv0⟩ : ∃ v0, v0 = Lw % 4294967296 := ⟨_, rfl⟩
  obtain ⟨U, hUe⟩ : ∃ U, U = H + lq := ⟨_, rfl⟩
  have hY0 : 0 < Y := by omega
  have hYs : y1 * 4294967296 + y0 = Y := by omega
  obtain ⟨E1, R1⟩ := est_start (u := U) (v := v1) (y1 := y1) (y0 := y0) (by omega) (by omega) (by omega) (by omega) (by omega)
  have hdg := est_digit E1
  have td := two_digits U v0 v1 Y hY0
  rw [hYs] at hdg
  have hm1 := Nat.mod_lt (U * 4294967296 + v1) hY0
  have lw1 := left_wrap (U * 4294967296 + v1) _ Y n1 hY0 rfl
  obtain ⟨X1, hX1⟩ : ∃ X1, X1 = U * 4294967296 + v1 := ⟨_, rfl⟩
  rw [← hX1] at td hdg hm1 lw1
  obtain ⟨D, hD⟩ : ∃ D, D = X1 / Y := ⟨_, rfl⟩
  obtain ⟨u1, hu1⟩ : ∃ u1, u1 = X1 % Y := ⟨_, rfl⟩
  rw [← hD] at hdg lw1
  rw [← hu1] at hm1 lw1
  rw [← hD, ← hu1] at td
  obtain ⟨E2, R2⟩ := est_start (u := u1) (v := v0) (y1 := y1) (y0 := y0) (by omega) (by omega) (by omega) (by omega) (by omega)
  have hdg2 := est_digit E2
  rw [hYs] at hdg2
  have hm2 := Nat.mod_lt (u1 * 4294967296 + v0) hY0
  have lw2 := left_wrap (u1 * 4294967296 + v0) _ Y n1 hY0 rfl
  obtain ⟨X2, hX2⟩ : ∃ X2, X2 = u1 * 4294967296 + v0 := ⟨_, rfl⟩
  rw [← hX2] at td hdg2 hm2 lw2
  obtain ⟨D2, hD2⟩ : ∃ D2, D2 = X2 / Y := ⟨_, rfl⟩
  obtain ⟨u2, hu2⟩ : ∃ u2, u2 = X2 % Y := ⟨_, rfl⟩
  rw [← hD2] at hdg2 lw2
  rw [← hu2] at hm2 lw2
  rw [← hD2, ← hu2] at td
  have b1 := Nat.div_mul_le_self U y1
  have b2 := Nat.div_mul_le_self u1 y1
  have b3 := Nat.div_le_self U y1
  have b4 := Nat.div_le_self u1 y1
  obtain ⟨q, hq⟩ : ∃ q, q = U / y1 := ⟨_, rfl⟩
  obtain ⟨q2, hq2⟩ : ∃ q2, q2 = u1 / y1 := ⟨_, rfl⟩
  rw [← hq] at b1 b3 E1 R1
  rw [← hq2] at b2 b4 E2 R2
  obtain ⟨m1, hm1e⟩ : ∃ m1, m1 = q * y1 := ⟨_, rfl⟩
  obtain ⟨m2, hm2e⟩ : ∃ m2, m2 = q2 * y1 := ⟨_, rfl⟩
  rw [← hm1e] at b1 E1 R1
  rw [← hm2e] at b2 E2 R2
  have eX := join_two U v1 v0 Lw X1 hX1 (by rw [hv1, hv0]; exact half_split Lw)
  rw [← hUe, eX] at hdiv
  have c1 : (y1 : Int) * 4294967296 + y0 = Y := by omega
  refine div64_core h l y s Y y1 y0 H U Lw v1 v0 q (U - m1 : Nat) D (U * 4294967296 % 18446744073709551616 : Nat) (D * Y % 18446744073709551616 : Nat) u1
    q2 (u1 - m2 : Nat) D2 (u1 * 4294967296 % 18446744073709551616 : Nat) (D2 * Y % 18446744073709551616 : Nat) u2
    _ _ w hl hy h0 hh n3 hz
    ?_ (by omega) ?_ ?_ ?_ ?_ (by omega) ?_ ?_ ?_ (by omega) (by omega) (by omega) (by omega) (by omega) (by omega) ?_ ?_ (by omega) (by omega) (by omega) (by omega) (EI.mk E1 R1)
    ?_ (by omega) (by omega) ?_ (by omega) (by omega) ?_ ?_ (by omega) (by omega) ?_ ?_ ?_ ?_ (by omega) (by omega) (Lib.hid (EI.mk E2 R2)) ?_ (by omega) (by omega) ?_ (by omega) (by omega) ?_ ?_ (by omega) (by omega) ?_
  · rw [← hYe]; have := wrapM (y * 2 ^ s); rw [Nat.mod_eq_of_lt (by omega)] at this; simpa using this
  · have := Mul64.maskN Y n1; rw [← hy0] at this; exact this
  · rw [← hHe]; have := wrapM (h * 2 ^ s); rw [Nat.mod_eq_of_lt (by omega)] at this; simpa using this
  · have := bits_or_u64_nat H lq (by omega) (by omega); rw [hor, ← hUe, ← hle] at this; simpa using this
  · rw [← hLe]; have := wrapM (l * 2 ^ s); simpa using this
  · have := Mul64.maskN Lw hL; rw [← hv0] at this; exact this
  · rw [hq]; simp
  · rw [← Int.natCast_mul, ← hm1e]; omega
  · rw [← Int.natCast_mul, ← hm1e]; omega
  · rw [← Int.natCast_mul, ← hm1e]; omega
  · refine Lib.hid ?_; rw [dgt_nat, hYs, ← hX1, ← hD]
  · have := wrapM (U * 4294967296); simpa using this
  · have := wrapM (D * Y); simpa using this
  · rw [← lw1]; congr 2; omega
  · rw [hq2]; simp
  · rw [← Int.natCast_mul, ← hm2e]; omega
  · rw [← Int.natCast_mul, ← hm2e]; omega
  · rw [← Int.natCast_mul, ← hm2e]; omega
  · refine Lib.hid ?_; rw [dgt_nat, hYs, ← hX2, ← hD2]
  · have := wrapM (u1 * 4294967296); simpa using this
  · have := wrapM (D2 * Y); simpa using this
  · rw [← lw2]; congr 2; omega
  · refine Lib.hid (end_eq ?_ ?_)
    · rw [← hdiv.1, ← td.1]; simp
    · rw [← hdiv.2, ← td.2]; simp

theorem div64_any (h l y : Nat) (w : World) (hl : l < 18446744073709551616) (hy : y < 18446744073709551616) (hh : h < y) :
    Calls Tryd.prog 105 #[.int .u64 (h : Int), .int .u64 (l : Int), .int .u64 (y : Int)] w fun e w' => e = .returned (.tuple #[.int .u64 (((h * 18446744073709551616 + l) / y : Nat) : Int), .int .u64 (((h * 18446744073709551616 + l) % y : Nat) : Int)]) ∧ ∃ n, w' = w.drewN n := by
  by_cases h0 : h = 0
  · subst h0
    rw [Nat.zero_mul, Nat.zero_add]
    exact div64_low l y w hl hy (by omega)
  · exact (div64_pos h l y w hl hy (by omega) hh).mono fun _ _ ⟨he, hw⟩ => ⟨he, 0, hw.symm⟩
end Go.Proofs.YtcmgphfcpgebfaaDoor
