/- The reference's tests of bytes: each is a plain function of the byte, and changes nothing. No condition. -/
import Derived.Test.YtbnldpcbdeeflaaGreatDoorBy
namespace Go.Proofs.YtbnldpcbdeeflaaGreatDoor
open Go.ChangeShapes Go.WideShapes Go.ChangeAt Go.RowKit

def loA (c : Int) : Int := if bCa c = true then c + 32 else c
def raA (c : Int) : Int := if bSm c = true then c - 32 else c
def hxA (c : Int) : Int := if bDi c = true then c - 48 else if 97 ≤ c ∧ c ≤ 102 then c - 97 + 10 else -1
theorem rb_bl (c : Int) (w : World) (h0 : 0 ≤ c) (h1 : c ≤ 255) : Calls Tryz.prog 52 #[.int .u8 c] w fun e w' => e = .returned (.bool (bBl c)) ∧ w = w' := by
  rcases (by omega : (c = 9) ∨ (c = 10) ∨ (c = 32) ∨ (c ≠ 9 ∧ c ≠ 10 ∧ c ≠ 32)) with k0 | k0 | k0 | ⟨k0, k1, k2⟩
  · have hv : bBl c = true := by unfold bBl; simp; omega
    rw [hv]
    clear hv
    go_enter Tryz.func52, Tryz.ntmps52
    go_wp2
    go_returns
    exact ⟨by first | rfl | (simp; omega), rfl⟩
  · have hv : bBl c = true := by unfold bBl; simp; omega
    rw [hv]
    clear hv
    go_enter Tryz.func52, Tryz.ntmps52
    go_wp2
    go_returns
    exact ⟨by first | rfl | (simp; omega), rfl⟩
  · have hv : bBl c = true := by unfold bBl; simp; omega
    rw [hv]
    clear hv
    go_enter Tryz.func52, Tryz.ntmps52
    go_wp2
    go_returns
    exact ⟨by first | rfl | (simp; omega), rfl⟩
  · have hv : bBl c = false := by unfold bBl; simp; omega
    rw [hv]
    clear hv
    go_enter Tryz.func52, Tryz.ntmps52
    go_wp2
    go_returns
    exact ⟨by first | rfl | (simp; omega), rfl⟩
theorem rb_di (c : Int) (w : World) (h0 : 0 ≤ c) (h1 : c ≤ 255) : Calls Tryz.prog 59 #[.int .u8 c] w fun e w' => e = .returned (.bool (bDi c)) ∧ w = w' := by
  rcases (by omega : (48 ≤ c ∧ c ≤ 57) ∨ (48 ≤ c ∧ 57 < c) ∨ (c < 48)) with ⟨k0, k1⟩ | ⟨k0, k1⟩ | k0
  · have hv : bDi c = true := by unfold bDi; simp; omega
    rw [hv]
    clear hv
    go_enter Tryz.func59, Tryz.ntmps59
    go_wp2
    go_returns
    exact ⟨by first | rfl | (simp; omega), rfl⟩
  · have hv : bDi c = false := by unfold bDi; simp; omega
    rw [hv]
    clear hv
    go_enter Tryz.func59, Tryz.ntmps59
    go_wp2
    go_returns
    exact ⟨by first | rfl | (simp; omega), rfl⟩
  · have hv : bDi c = false := by unfold bDi; simp; omega
    rw [hv]
    clear hv
    go_enter Tryz.func59, Tryz.ntmps59
    go_wp2
    go_returns
    exact ⟨by first | rfl | (simp; omega), rfl⟩
theorem rb_sm (c : Int) (w : World) (h0 : 0 ≤ c) (h1 : c ≤ 255) : Calls Tryz.prog 93 #[.int .u8 c] w fun e w' => e = .returned (.bool (bSm c)) ∧ w = w' := by
  rcases (by omega : (97 ≤ c ∧ c ≤ 122) ∨ (97 ≤ c ∧ 122 < c) ∨ (c < 97)) with ⟨k0, k1⟩ | ⟨k0, k1⟩ | k0
  · have hv : bSm c = true := by unfold bSm; simp; omega
    rw [hv]
    clear hv
    go_enter Tryz.func93, Tryz.ntmps93
    go_wp2
    go_returns
    exact ⟨by first | rfl | (simp; omega), rfl⟩
  · have hv : bSm c = false := by unfold bSm; simp; omega
    rw [hv]
    clear hv
    go_enter Tryz.func93, Tryz.ntmps93
    go_wp2
    go_returns
    exact ⟨by first | rfl | (simp; omega), rfl⟩
  · have hv : bSm c = false := by unfold bSm; simp; omega
    rw [hv]
    clear hv
    go_enter Tryz.func93, Tryz.ntmps93
    go_wp2
    go_returns
    exact ⟨by first | rfl | (simp; omega), rfl⟩
theorem rb_ca (c : Int) (w : World) (h0 : 0 ≤ c) (h1 : c ≤ 255) : Calls Tryz.prog 95 #[.int .u8 c] w fun e w' => e = .returned (.bool (bCa c)) ∧ w = w' := by
  rcases (by omega : (65 ≤ c ∧ c ≤ 90) ∨ (65 ≤ c ∧ 90 < c) ∨ (c < 65)) with ⟨k0, k1⟩ | ⟨k0, k1⟩ | k0
  · have hv : bCa c = true := by unfold bCa; simp; omega
    rw [hv]
    clear hv
    go_enter Tryz.func95, Tryz.ntmps95
    go_wp2
    go_returns
    exact ⟨by first | rfl | (simp; omega), rfl⟩
  · have hv : bCa c = false := by unfold bCa; simp; omega
    rw [hv]
    clear hv
    go_enter Tryz.func95, Tryz.ntmps95
    go_wp2
    go_returns
    exact ⟨by first | rfl | (simp; omega), rfl⟩
  · have hv : bCa c = false := by unfold bCa; simp; omega
    rw [hv]
    clear hv
    go_enter Tryz.func95, Tryz.ntmps95
    go_wp2
    go_returns
    exact ⟨by first | rfl | (simp; omega), rfl⟩
theorem rb_tx (c : Int) (w : World) (h0 : 0 ≤ c) (h1 : c ≤ 255) : Calls Tryz.prog 53 #[.int .u8 c] w fun e w' => e = .returned (.bool (bTx c)) ∧ w = w' := by
  rcases (by omega : (c = 9) ∨ (c = 10) ∨ (32 ≤ c ∧ c ≤ 126) ∨ (32 ≤ c ∧ 126 < c) ∨ (c < 32 ∧ c ≠ 9 ∧ c ≠ 10)) with k0 | k0 | ⟨k0, k1⟩ | ⟨k0, k1⟩ | ⟨k0, k1, k2⟩
  · have hv : bTx c = true := by unfold bTx bPr bBl; simp; omega
    rw [hv]
    clear hv
    go_enter Tryz.func53, Tryz.ntmps53
    go_wp2
    go_returns
    exact ⟨by first | rfl | (simp; omega), rfl⟩
  · have hv : bTx c = true := by unfold bTx bPr bBl; simp; omega
    rw [hv]
    clear hv
    go_enter Tryz.func53, Tryz.ntmps53
    go_wp2
    go_returns
    exact ⟨by first | rfl | (simp; omega), rfl⟩
  · have hv : bTx c = true := by unfold bTx bPr bBl; simp; omega
    rw [hv]
    clear hv
    go_enter Tryz.func53, Tryz.ntmps53
    go_wp2
    go_returns
    exact ⟨by first | rfl | (simp; omega), rfl⟩
  · have hv : bTx c = false := by unfold bTx bPr bBl; simp; omega
    rw [hv]
    clear hv
    go_enter Tryz.func53, Tryz.ntmps53
    go_wp2
    go_returns
    exact ⟨by first | rfl | (simp; omega), rfl⟩
  · have hv : bTx c = false := by unfold bTx bPr bBl; simp; omega
    rw [hv]
    clear hv
    go_enter Tryz.func53, Tryz.ntmps53
    go_wp2
    go_returns
    exact ⟨by first | rfl | (simp; omega), rfl⟩
theorem rb_lo (c : Int) (w : World) (h0 : 0 ≤ c) (h1 : c ≤ 255) : Calls Tryz.prog 69 #[.int .u8 c] w fun e w' => e = .returned (.int .u8 (loA c)) ∧ w = w' := by
  have H1 := fun w => rb_ca c w h0 h1
  unfold loA
  rcases Bool.eq_false_or_eq_true (bCa c) with hx | hx
  · rw [hx] at H1
    rw [if_pos hx]
    have q0 := of_decide_eq_true hx
    obtain ⟨q1, q2⟩ := q0
    clear hx
    have K1 := Lib.hid H1
    clear H1
    go_enter Tryz.func69, Tryz.ntmps69
    go_wp2_with (first | (go_at_call 95; (with_reducible refine (K1.out _).mono ?_); rintro e w' ⟨rfl, rfl⟩))
    go_returns
    exact ⟨rfl, rfl⟩
  · rw [hx] at H1
    rw [if_neg (by rw [hx]; decide)]
    clear hx
    have K1 := Lib.hid H1
    clear H1
    go_enter Tryz.func69, Tryz.ntmps69
    go_wp2_with (first | (go_at_call 95; (with_reducible refine (K1.out _).mono ?_); rintro e w' ⟨rfl, rfl⟩))
    go_returns
    exact ⟨rfl, rfl⟩
theorem rb_ra (c : Int) (w : World) (h0 : 0 ≤ c) (h1 : c ≤ 255) : Calls Tryz.prog 96 #[.int .u8 c] w fun e w' => e = .returned (.int .u8 (raA c)) ∧ w = w' := by
  have H1 := fun w => rb_sm c w h0 h1
  unfold raA
  rcases Bool.eq_false_or_eq_true (bSm c) with hx | hx
  · rw [hx] at H1
    rw [if_pos hx]
    have q0 := of_decide_eq_true hx
    obtain ⟨q1, q2⟩ := q0
    clear hx
    have K1 := Lib.hid H1
    clear H1
    go_enter Tryz.func96, Tryz.ntmps96
    go_wp2_with (first | (go_at_call 93; (with_reducible refine (K1.out _).mono ?_); rintro e w' ⟨rfl, rfl⟩))
    go_returns
    exact ⟨rfl, rfl⟩
  · rw [hx] at H1
    rw [if_neg (by rw [hx]; decide)]
    clear hx
    have K1 := Lib.hid H1
    clear H1
    go_enter Tryz.func96, Tryz.ntmps96
    go_wp2_with (first | (go_at_call 93; (with_reducible refine (K1.out _).mono ?_); rintro e w' ⟨rfl, rfl⟩))
    go_returns
    exact ⟨rfl, rfl⟩
theorem rb_hx (c : Int) (w : World) (h0 : 0 ≤ c) (h1 : c ≤ 255) : Calls Tryz.prog 99 #[.int .u8 c] w fun e w' => e = .returned (.int .i64 (hxA c)) ∧ w = w' := by
  have H1 := fun w => rb_di c w h0 h1
  unfold hxA
  rcases (by omega : (48 ≤ c ∧ c ≤ 57) ∨ (c < 48) ∨ (57 < c ∧ c < 97) ∨ (97 ≤ c ∧ c ≤ 102) ∨ 102 < c) with ⟨k0, k1⟩ | k0 | ⟨k0, k1⟩ | ⟨k0, k1⟩ | k0
  all_goals
    first
      | (have hd : bDi c = true := by unfold bDi; simp; omega)
      | (have hd : bDi c = false := by unfold bDi; simp; omega)
    rw [hd] at H1 ⊢
    clear hd
    have K1 := Lib.hid H1
    clear H1
    first
      | rw [if_pos rfl]
      | rw [if_neg (by decide), if_pos ⟨by omega, by omega⟩]
      | rw [if_neg (by decide), if_neg (by omega)]
    first
      | (have k3 : decide (97 ≤ c) = true := decide_eq_true (by omega))
      | (have k3 : decide (97 ≤ c) = false := decide_eq_false (by omega))
    first
      | (have k4 : decide (c ≤ 102) = true := decide_eq_true (by omega))
      | (have k4 : decide (c ≤ 102) = false := decide_eq_false (by omega))
    go_enter Tryz.func99, Tryz.ntmps99
    go_wp2_with (first | (go_at_call 59; (with_reducible refine (K1.out _).mono ?_); rintro e w' ⟨rfl, rfl⟩))
    go_returns
    exact ⟨rfl, rfl⟩
end Go.Proofs.YtbnldpcbdeeflaaGreatDoor
