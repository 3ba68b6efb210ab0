/- math/bits.Div64 at this program: quotient and remainder. Condition: the high word is below the divisor. -/
import Derived.Test.YtcmgphfcpgebfaaDoorDivM
import Derived.BigGuardPart
namespace Go.Proofs.YtcmgphfcpgebfaaDoor
open Go.ChangeShapes Go.WideShapes Go.ChangeAt Go.RowKit

set_option maxRecDepth 100000 in
set_option maxHeartbeats 1000000 in
theorem div64_low (l y : Nat) (w : World) (hl : l < 18446744073709551616) (hy : y < 18446744073709551616) (h0 : 0 < y) :
    Calls Tryd.prog 105 #[.int .u64 0, .int .u64 (l : Int), .int .u64 (y : Int)] w fun e w' => e = .returned (.tuple #[.int .u64 ((l / y : Nat) : Int), .int .u64 ((l % y : Nat) : Int)]) ∧ ∃ n, w' = w.drewN n := by
  have hy1 : ¬ (y : Int) = 0 := by omega
  have hy2 : (0 : Int) < (y : Int) := by omega
  have hq : (l : Int) / (y : Int) = ((l / y : Nat) : Int) := by omega
  have hq2 : l / y < 18446744073709551616 := Nat.lt_of_le_of_lt (Nat.div_le_self _ _) hl
  have hr : (l : Int) % (y : Int) = ((l % y : Nat) : Int) := by omega
  generalize l / y = q at *
  generalize l % y = r at *
  go_enter Tryd.func105, Tryd.ntmps105
  go_wp2
  go_quiet (fail)
  go_wp2
  go_returns
  exact ⟨by simpa using hr, _, rfl⟩

/-- The estimate, over integers. -/
def EI (u v y1 y0 q r : Int) : Prop := (0 ≤ u ∧ 0 ≤ v ∧ 0 ≤ y1 ∧ 0 ≤ y0 ∧ 0 ≤ q ∧ 0 ≤ r) ∧ r < 4294967296 ∧ Est u.toNat v.toNat y1.toNat y0.toNat q.toNat r.toNat
/-- The digit. -/
def dgt (u v y1 y0 : Int) : Int := (u * 4294967296 + v) / (y1 * 4294967296 + y0)
theorem EI.nat {u v y1 y0 q r : Int} (h : EI u v y1 y0 q r) : ∃ u' v' y1' y0' q' r' : Nat, u = u' ∧ v = v' ∧ y1 = y1' ∧ y0 = y0' ∧ q = q' ∧ r = r' ∧ r' < 4294967296 ∧ Est u' v' y1' y0' q' r' :=
  ⟨u.toNat, v.toNat, y1.toNat, y0.toNat, q.toNat, r.toNat, by have := h.1; omega, by have := h.1; omega, by have := h.1; omega, by have := h.1; omega, by have := h.1; omega, by have := h.1; omega, by have := h.2.1; omega, h.2.2⟩
theorem EI.mk {u v y1 y0 q r : Nat} (h : Est u v y1 y0 q r) (hr : r < 4294967296) : EI u v y1 y0 q r :=
  ⟨⟨by omega, by omega, by omega, by omega, by omega, by omega⟩, by omega, by simpa using h⟩
theorem EI.facts {u v y1 y0 q r : Int} (h : EI u v y1 y0 q r) : (0 ≤ q ∧ q ≤ 4294967297) ∧ (0 ≤ r ∧ r < 4294967296) ∧ (0 ≤ v ∧ v < 4294967296) ∧ (2147483648 ≤ y1) ∧ (0 ≤ y0 ∧ y0 < 4294967296) := by
  obtain ⟨u, v, y1, y0, q, r, rfl, rfl, rfl, rfl, rfl, rfl, c, d⟩ := h.nat
  have := d.top; have := d.hv; have := d.hy1; have := d.hy0
  omega
theorem EI.prod {u v y1 y0 q r : Int} (h : EI u v y1 y0 q r) (hq : q < 4294967296) : 0 ≤ q * y0 ∧ q * y0 ≤ 18446744073709551615 := by
  obtain ⟨u, v, y1, y0, q, r, rfl, rfl, rfl, rfl, rfl, rfl, c, d⟩ := h.nat
  have := Nat.mul_le_mul (show q ≤ 4294967295 by omega) (show y0 ≤ 4294967295 by have := d.hy0; omega)
  rw [← Int.natCast_mul]
  omega
theorem dgt_nat (u v y1 y0 : Nat) : dgt u v y1 y0 = (((u * 4294967296 + v) / (y1 * 4294967296 + y0) : Nat) : Int) := by unfold dgt; simp
theorem EI.down {u v y1 y0 q r : Int} (h : EI u v y1 y0 q r) (ht : 4294967296 ≤ q ∨ 4294967296 * r + v < q * y0) : 1 ≤ q ∧ (r + y1 < 4294967296 → EI u v y1 y0 (q - 1) (r + y1)) ∧
    (4294967296 ≤ r + y1 → q - 1 = dgt u v y1 y0) := by
  obtain ⟨u, v, y1, y0, q, r, rfl, rfl, rfl, rfl, rfl, rfl, c, d⟩ := h.nat
  rw [dgt_nat]
  have hq : (u * 4294967296 + v) / (y1 * 4294967296 + y0) < q := by
    rcases ht with ht | ht
    · exact Nat.lt_of_lt_of_le (est_digit d) (by omega)
    · exact (est_test d).1 (by rw [← Int.natCast_mul] at ht; omega)
  have h1 : 1 ≤ q := Nat.lt_of_le_of_lt (Nat.zero_le _) hq
  have hd := est_down d hq
  have e1 : ((q : Int) - 1) = ((q - 1 : Nat) : Int) := by omega
  have e2 : ((r : Int) + y1) = ((r + y1 : Nat) : Int) := by omega
  refine ⟨by omega, fun h2 => ?_, fun h2 => ?_⟩
  · rw [e1, e2]; exact EI.mk hd (by omega)
  · rw [← est_break hd (by have := d.top; omega) (by omega)]
    omega
theorem EI.stop {u v y1 y0 q r : Int} (h : EI u v y1 y0 q r) (ht : ¬ 4294967296 * r + v < q * y0) : q = dgt u v y1 y0 := by
  obtain ⟨u, v, y1, y0, q, r, rfl, rfl, rfl, rfl, rfl, rfl, c, d⟩ := h.nat
  rw [dgt_nat]
  have h1 : ¬ (u * 4294967296 + v) / (y1 * 4294967296 + y0) < q := fun h => ht (by have := (est_test d).2 h; rw [← Int.natCast_mul]; omega)
  have h2 := d.big
  congr 1
  exact Nat.le_antisymm h2 (Nat.le_of_not_lt h1) |>.symm

set_option maxRecDepth 100000 in
set_option maxHeartbeats 4000000 in
theorem div64_core (h l y s : Nat) (Y y1 y0 H U Lw v1 v0 q r D A Bq u1 q' r' D2 A2 B2 u2 Q R : Int) (w : World) (_hl : l < 18446744073709551616) (hy : y < 18446744073709551616) (h0 : 0 < h) (hh : h < y) (hs : s < 64)
    (hz : Lib.bitLen y = 64 - s) (eY : IntKind.u64.wrap ((y : Int) * 2 ^ s) = Y) (ey1 : Y / 4294967296 = y1) (ey0 : bits .and .u64 Y 4294967295 = y0)
    (eH : IntKind.u64.wrap ((h : Int) * 2 ^ s) = H) (eU : bits .or .u64 H ((l : Int) / 2 ^ (64 - s)) = U) (eL : IntKind.u64.wrap ((l : Int) * 2 ^ s) = Lw)
    (ev1 : Lw / 4294967296 = v1) (ev0 : bits .and .u64 Lw 4294967295 = v0) (eq1 : U / y1 = q) (er1 : U - q * y1 = r)
    (_bY0 : 0 ≤ Y) (_bY : Y < 18446744073709551616) (by1 : 0 < y1) (by2 : y1 < 4294967296) (bU0 : 0 ≤ U) (bU : U < 18446744073709551616) (bq : q * y1 ≤ 18446744073709551615) (bq0 : 0 ≤ q * y1) (_bL0 : 0 ≤ Lw) (_bL : Lw < 18446744073709551616) (_bq1 : 0 ≤ q) (_bq2 : q < 18446744073709551616) (hE : EI U v1 y1 y0 q r)
    (hD : Hid (D = dgt U v1 y1 y0)) (bD0 : 0 ≤ D) (bD : D < 4294967296) (eA : IntKind.u64.wrap (U * 4294967296) = A) (bA0 : 0 ≤ A) (bA : A + v1 < 18446744073709551616) (eB : IntKind.u64.wrap (D * Y) = Bq) (e1 : IntKind.u64.wrap (A + v1 - Bq) = u1)
    (bu0 : 0 ≤ u1) (bu : u1 < 18446744073709551616) (eq2 : u1 / y1 = q') (er2 : u1 - q' * y1 = r') (bqy : q' * y1 ≤ 18446744073709551615) (bqy0 : 0 ≤ q' * y1) (_bq21 : 0 ≤ q') (_bq22 : q' < 18446744073709551616) (hG : Hid (EI u1 v0 y1 y0 q' r'))
    (hD2 : Hid (D2 = dgt u1 v0 y1 y0)) (bD20 : 0 ≤ D2) (bD2 : D2 < 4294967296) (eA2 : IntKind.u64.wrap (u1 * 4294967296) = A2) (bA20 : 0 ≤ A2) (bA2 : A2 + v0 < 18446744073709551616) (eB2 : IntKind.u64.wrap (D2 * Y) = B2) (e2 : IntKind.u64.wrap (A2 + v0 - B2) = u2)
    (_bu20 : 0 ≤ u2) (_bu2 : u2 < 18446744073709551616)
    (hEnd : Hid (Ending.returned (.tuple #[.int .u64 (D * 4294967296 + D2), .int .u64 (u2 / 2 ^ s)]) = .returned (.tuple #[.int .u64 Q, .int .u64 R]))) :
    Calls Tryd.prog 105 #[.int .u64 (h : Int), .int .u64 (l : Int), .int .u64 (y : Int)] w fun e w' => e = .returned (.tuple #[.int .u64 Q, .int .u64 R]) ∧ w = w' := by
  have hy1 : ¬ (y : Int) = 0 := by omega
  have hy2 : ¬ (h : Int) = 0 := by omega
  have hy3 : ¬ y ≤ h := by omega
  have hy4 : ¬ y1 = 0 := by omega
  have hsz : (64 : Int) - (Lib.bitLen y : Int) = (s : Int) := by omega
  obtain ⟨⟨g1, g2⟩, ⟨g3, g4⟩, ⟨g5, g6⟩, g7, g8, g9⟩ := hE.facts
  obtain ⟨_, _, ⟨g10, g11⟩, _⟩ := hG.out.facts
  have hF := Lib.hid hE
  clear hz hE
  go_enter Tryd.func105, Tryd.ntmps105
  go_wp2_with (go_at_call 108; refine (Tryd.bits_LeadingZeros64 (y : Int) _ (by omega) (by omega)).mono ?_; rintro e w1 ⟨rfl, rfl⟩; simp only [Int.toNat_natCast, hsz])
  go_loop [15, 16] (fun t u => ∃ q r : Int, t = .int .u64 q ∧ u = .int .u64 r ∧ EI U v1 y1 y0 q r) (fun t _ => (intOf t).toNat)
  case atStart => rw [eq1]; exact ⟨q, r, rfl, rfl, hF.out⟩
  case round =>
    clear eq1 er1 bq bq0 eU eL eH eY _bq1 _bq2 hF _hl hy ev1 ev0 ey1 ey0 g1 g2 g3 g4
    obtain ⟨q, r, rfl, rfl, hX⟩ := hrel
    obtain ⟨⟨g1, g2⟩, ⟨g3, g4⟩, _⟩ := hX.facts
    have hX := Lib.hid hX
    by_cases hq : 4294967296 ≤ q
    · obtain ⟨k1, k2, k3⟩ := hX.out.down (.inl hq)
      rw [← hD.out] at k3
      by_cases hb : 4294967296 ≤ r + y1
      · have eD := k3 hb
        clear k2 k3
        go_wp2
        clear hX
        go_loop [18, 16] (fun t u => ∃ q r : Int, t = .int .u64 q ∧ u = .int .u64 r ∧ EI u1 v0 y1 y0 q r) (fun t _ => (intOf t).toNat)
        case atStart => exact ⟨_, _, rfl, rfl, hG.out⟩
        case round =>
          clear eq2 er2 bqy bqy0 _bq21 _bq22
          obtain ⟨q, r, rfl, rfl, hX⟩ := hrel
          obtain ⟨⟨g1, g2⟩, ⟨g3, g4⟩, _⟩ := hX.facts
          have hX := Lib.hid hX
          by_cases hq : 4294967296 ≤ q
          · obtain ⟨k1, k2, k3⟩ := hX.out.down (.inl hq)
            rw [← hD2.out] at k3
            by_cases hb : 4294967296 ≤ r + y1
            · have eD := k3 hb
              clear k2 k3
              go_wp2
              go_returns
              exact ⟨hEnd.out, rfl⟩
            · have k4 := k2 (by omega)
              clear k2 k3
              go_wp2
              go_round
              case rel => exact ⟨_, _, rfl, rfl, k4⟩
              case measure => simp [intOf]; omega
          · have hq2 : q < 4294967296 := by omega
            obtain ⟨c1, c2⟩ := hX.out.prod hq2
            clear hq2
            by_cases ht : 4294967296 * r + v0 < q * y0
            · obtain ⟨k1, k2, k3⟩ := hX.out.down (.inr ht)
              rw [← hD2.out] at k3
              by_cases hb : 4294967296 ≤ r + y1
              · have eD := k3 hb
                clear k2 k3
                go_wp2
                go_returns
                exact ⟨hEnd.out, rfl⟩
              · have k4 := k2 (by omega)
                clear k2 k3
                go_wp2
                go_round
                case rel => exact ⟨_, _, rfl, rfl, k4⟩
                case measure => simp [intOf]; omega
            · have eD : q = D2 := (hX.out.stop ht).trans hD2.out.symm
              subst eD
              go_wp2
              go_returns
              exact ⟨hEnd.out, rfl⟩
      · have k4 := k2 (by omega)
        clear k2 k3
        go_wp2
        go_round
        case rel => exact ⟨_, _, rfl, rfl, k4⟩
        case measure => simp [intOf]; omega
    · have hq2 : q < 4294967296 := by omega
      obtain ⟨c1, c2⟩ := hX.out.prod hq2
      clear hq2
      by_cases ht : 4294967296 * r + v1 < q * y0
      · obtain ⟨k1, k2, k3⟩ := hX.out.down (.inr ht)
        rw [← hD.out] at k3
        by_cases hb : 4294967296 ≤ r + y1
        · have eD := k3 hb
          clear k2 k3
          go_wp2
          clear hX
          go_loop [18, 16] (fun t u => ∃ q r : Int, t = .int .u64 q ∧ u = .int .u64 r ∧ EI u1 v0 y1 y0 q r) (fun t _ => (intOf t).toNat)
          case atStart => exact ⟨_, _, rfl, rfl, hG.out⟩
          case round =>
            clear eq2 er2 bqy bqy0 _bq21 _bq22
            obtain ⟨q, r, rfl, rfl, hX⟩ := hrel
            obtain ⟨⟨g1, g2⟩, ⟨g3, g4⟩, _⟩ := hX.facts
            have hX := Lib.hid hX
            by_cases hq : 4294967296 ≤ q
            · obtain ⟨k1, k2, k3⟩ := hX.out.down (.inl hq)
              rw [← hD2.out] at k3
              by_cases hb : 4294967296 ≤ r + y1
              · have eD := k3 hb
                clear k2 k3
                go_wp2
                go_returns
                exact ⟨hEnd.out, rfl⟩
              · have k4 := k2 (by omega)
                clear k2 k3
                go_wp2
                go_round
                case rel => exact ⟨_, _, rfl, rfl, k4⟩
                case measure => simp [intOf]; omega
            · have hq2 : q < 4294967296 := by omega
              obtain ⟨c1, c2⟩ := hX.out.prod hq2
              clear hq2
              by_cases ht : 4294967296 * r + v0 < q * y0
              · obtain ⟨k1, k2, k3⟩ := hX.out.down (.inr ht)
                rw [← hD2.out] at k3
                by_cases hb : 4294967296 ≤ r + y1
                · have eD := k3 hb
                  clear k2 k3
                  go_wp2
                  go_returns
                  exact ⟨hEnd.out, rfl⟩
                · have k4 := k2 (by omega)
                  clear k2 k3
                  go_wp2
                  go_round
                  case rel => exact ⟨_, _, rfl, rfl, k4⟩
                  case measure => simp [intOf]; omega
              · have eD : q = D2 := (hX.out.stop ht).trans hD2.out.symm
                subst eD
                go_wp2
                go_returns
                exact ⟨hEnd.out, rfl⟩
        · have k4 := k2 (by omega)
          clear k2 k3
          go_wp2
          go_round
          case rel => exact ⟨_, _, rfl, rfl, k4⟩
          case measure => simp [intOf]; omega
      · have eD : q = D := (hX.out.stop ht).trans hD.out.symm
        subst eD
        clear hX
        go_wp2
        go_loop [18, 16] (fun t u => ∃ q r : Int, t = .int .u64 q ∧ u = .int .u64 r ∧ EI u1 v0 y1 y0 q r) (fun t _ => (intOf t).toNat)
        case atStart => exact ⟨_, _, rfl, rfl, hG.out⟩
        case round =>
          clear eq2 er2 bqy bqy0 _bq21 _bq22
          obtain ⟨q, r, rfl, rfl, hX⟩ := hrel
          obtain ⟨⟨g1, g2⟩, ⟨g3, g4⟩, _⟩ := hX.facts
          have hX := Lib.hid hX
          by_cases hq : 4294967296 ≤ q
          · obtain ⟨k1, k2, k3⟩ := hX.out.down (.inl hq)
            rw [← hD2.out] at k3
            by_cases hb : 4294967296 ≤ r + y1
            · have eD := k3 hb
              clear k2 k3
              go_wp2
              go_returns
              exact ⟨hEnd.out, rfl⟩
            · have k4 := k2 (by omega)
              clear k2 k3
              go_wp2
              go_round
              case rel => exact ⟨_, _, rfl, rfl, k4⟩
              case measure => simp [intOf]; omega
          · have hq2 : q < 4294967296 := by omega
            obtain ⟨c1, c2⟩ := hX.out.prod hq2
            clear hq2
            by_cases ht : 4294967296 * r + v0 < q * y0
            · obtain ⟨k1, k2, k3⟩ := hX.out.down (.inr ht)
              rw [← hD2.out] at k3
              by_cases hb : 4294967296 ≤ r + y1
              · have eD := k3 hb
                clear k2 k3
                go_wp2
                go_returns
                exact ⟨hEnd.out, rfl⟩
              · have k4 := k2 (by omega)
                clear k2 k3
                go_wp2
                go_round
                case rel => exact ⟨_, _, rfl, rfl, k4⟩
                case measure => simp [intOf]; omega
            · have eD : q = D2 := (hX.out.stop ht).trans hD2.out.symm
              subst eD
              go_wp2
              go_returns
              exact ⟨hEnd.out, rfl⟩
end Go.Proofs.YtcmgphfcpgebfaaDoor
