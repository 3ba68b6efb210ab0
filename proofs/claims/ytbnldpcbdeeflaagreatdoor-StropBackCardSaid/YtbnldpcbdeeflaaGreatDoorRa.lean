/- The reference's looks at its text: a byte, a letter, blanks. Condition: the scanner's cells hold the text and the regime. -/
import Derived.Test.YtbnldpcbdeeflaaGreatDoorRb
import Derived.Test.YtbnldpcbdeeflaaGreatDoorCh
namespace Go.Proofs.YtbnldpcbdeeflaaGreatDoor
open Go.ChangeShapes Go.WideShapes Go.ChangeAt Go.RowKit

theorem at_any (t : ByteArray) (S i : Nat) (w : World) (c0 : w.cell? ⟨S, 0, none⟩ = some (.string t)) (hl : t.size ≤ 100000) (hi : i ≤ 200000) :
    Calls Tryz.prog 60 #[.pointer (some ⟨S, 0, none⟩), .int .i64 (i : Int)] w fun e w' => e = .returned (.int .u8 (pk t i)) ∧ w = w' := by
  by_cases h : i < t.size
  · rw [pk_in h]
    go_enter Tryz.func60, Tryz.ntmps60
    go_wp2
    go_returns
    exact ⟨rfl, rfl⟩
  · rw [pk_out (by omega)]
    have h' : t.size ≤ i := by omega
    go_enter Tryz.func60, Tryz.ntmps60
    go_wp2
    go_returns
    exact ⟨rfl, rfl⟩
/-- A letter of tags in a regime. -/
def ltB (r c : Int) : Bool := bSm c || (decide (r ≠ 0) && bCa c)
theorem letter_any (S : Nat) (r c : Int) (w : World) (c2 : w.cell? ⟨S, 2, none⟩ = some (.int .i64 r)) (h0 : 0 ≤ c) (h1 : c ≤ 255) :
    Calls Tryz.prog 62 #[.pointer (some ⟨S, 0, none⟩), .int .u8 c] w fun e w' => e = .returned (.bool (ltB r c)) ∧ w = w' := by
  have H1 := fun w => rb_sm c w h0 h1
  have H2 := fun w => rb_ca c w h0 h1
  unfold ltB
  rcases Bool.eq_false_or_eq_true (bSm c) with hx | hx <;> rcases Bool.eq_false_or_eq_true (bCa c) with hy | hy <;> by_cases hr : r = 0
  all_goals
    rw [hx] at H1
    rw [hy] at H2
    rw [hx, hy]
    clear hx hy
    have K1 := Lib.hid H1
    have K2 := Lib.hid H2
    clear H1 H2
    first
      | (have k3 : (r != 0) = false := by simp [hr]; done)
      | (have k3 : (r != 0) = true := by simp [hr]; done)
    first
      | (have k4 : decide (r ≠ 0) = false := by simp [hr]; done)
      | (have k4 : decide (r ≠ 0) = true := by simp [hr]; done)
    rw [k4]
    clear hr k4
    go_enter Tryz.func62, Tryz.ntmps62
    go_wp2_with (first | (go_at_call 93; (with_reducible refine (K1.out _).mono ?_); rintro e w' ⟨rfl, rfl⟩) | (go_at_call 95; (with_reducible refine (K2.out _).mono ?_); rintro e w' ⟨rfl, rfl⟩))
    go_returns
    exact ⟨rfl, rfl⟩
set_option maxHeartbeats 1000000 in
theorem behind_any (t : ByteArray) (S i : Nat) (w : World) (c0 : w.cell? ⟨S, 0, none⟩ = some (.string t)) (hl : t.size ≤ 100000) (hi : i ≤ 100001) :
    Calls Tryz.prog 98 #[.pointer (some ⟨S, 0, none⟩), .int .i64 (i : Int)] w fun e w' => e = .returned (.int .i64 (sk t i : Int)) ∧ w = w' := by
  have C0 := Lib.hid c0
  have HL := Lib.hid hl
  clear hl
  go_enter Tryz.func98, Tryz.ntmps98
  go_wp2
  go_loop [1] (fun v => ∃ k : Nat, i ≤ k ∧ k ≤ 100001 ∧ sk t k = sk t i ∧ v = .int .i64 k) (fun v => t.size - (intOf v).toNat)
  case atStart => exact ⟨i, Nat.le_refl _, hi, rfl, rfl⟩
  case round =>
    obtain ⟨k, hk, hk2, hs, rfl⟩ := hrel
    have HS := Lib.hid hs
    clear hs
    have hl := HL.out
    by_cases hlt : k < t.size
    · have hp := pk_bd t k
      have hpi := (pk_in hlt).symm
      obtain ⟨p, hpe⟩ : ∃ p, pk t k = p := ⟨_, rfl⟩
      have HE := Lib.hid hpe
      rw [hpe] at hp hpi
      have HB := Lib.hid (fun w => rb_bl p w hp.1 hp.2)
      clear hpe
      rcases Bool.eq_false_or_eq_true (bBl p) with hb | hb
      · have HN := Lib.hid (show sk t (k + 1) = sk t i by rw [← HS.out]; exact (ru_yes (by rw [HE.out]; exact hb)).symm)
        rw [hb] at HB
        clear hb
        go_wp2_with (first | (go_at_call 52; (with_reducible refine (HB.out _).mono ?_); rintro e w' ⟨rfl, rfl⟩))
        go_round
        case rel => exact ⟨k + 1, by omega, by omega, HN.out, by go_num⟩
        case measure => simp [intOf]; omega
      · have HN := Lib.hid (show sk t i = k by rw [← HS.out]; exact ru_no (by rw [HE.out]; exact hb))
        rw [hb] at HB
        clear hb
        go_wp2_with (first | (go_at_call 52; (with_reducible refine (HB.out _).mono ?_); rintro e w' ⟨rfl, rfl⟩))
        go_returns
        exact ⟨by rw [HN.out]; rfl, rfl⟩
    · have hge : t.size ≤ k := by omega
      have HN := Lib.hid (show sk t i = k by rw [← HS.out]; exact ru_no (by rw [pk_out hge]; rfl))
      go_wp2
      go_returns
      exact ⟨by rw [HN.out]; rfl, rfl⟩
end Go.Proofs.YtbnldpcbdeeflaaGreatDoor
