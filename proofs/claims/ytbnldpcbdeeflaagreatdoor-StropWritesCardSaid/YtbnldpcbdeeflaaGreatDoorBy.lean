/- Tests of bytes: each is a plain function of the byte, and changes nothing. No condition. -/
import Derived.Test.YtbnldpcbdeeflaaGreatDoorProg
import Derived.WalkKit
import Derived.ProofKit
import Derived.Lib.Hide
import Derived.Handy
import Derived.Below
import Derived.Deep.QuietTactic
import Derived.BigQuiet
namespace Go.Proofs.YtbnldpcbdeeflaaGreatDoor
open Go.ChangeShapes Go.WideShapes Go.ChangeAt Go.RowKit

/-- What bytes are. -/
def bBl (c : Int) : Bool := decide (c = 9 ∨ c = 10 ∨ c = 32)
def bPr (c : Int) : Bool := decide (32 ≤ c ∧ c ≤ 126)
def bDi (c : Int) : Bool := decide (48 ≤ c ∧ c ≤ 57)
def bSm (c : Int) : Bool := decide (97 ≤ c ∧ c ≤ 122)
def bCa (c : Int) : Bool := decide (65 ≤ c ∧ c ≤ 90)
def bHx (c : Int) : Bool := decide ((48 ≤ c ∧ c ≤ 57) ∨ (97 ≤ c ∧ c ≤ 102))
def bTx (c : Int) : Bool := bPr c || bBl c
def bLe (c : Int) : Bool := bSm c || bCa c
def bCd (c : Int) : Bool := bCa c || bDi c
def bLd (c : Int) : Bool := bLe c || bDi c
def bSd (c : Int) : Bool := bSm c || bDi c
theorem by_bl (c : Int) (w : World) (h0 : 0 ≤ c) (h1 : c ≤ 255) : Calls Tryz.prog 37 #[.int .u8 c] w fun e w' => e = .returned (.bool (bBl c)) ∧ w = w' := by
  rcases (by omega : (c = 9) ∨ (c = 10) ∨ (c = 32) ∨ (c ≠ 9 ∧ c ≠ 10 ∧ c ≠ 32)) with k0 | k0 | k0 | ⟨k0, k1, k2⟩
  · have hv : bBl c = true := by unfold bBl; simp; omega
    rw [hv]
    clear hv
    go_enter Tryz.func37, Tryz.ntmps37
    go_wp2
    go_returns
    exact ⟨by first | rfl | (simp; omega), rfl⟩
  · have hv : bBl c = true := by unfold bBl; simp; omega
    rw [hv]
    clear hv
    go_enter Tryz.func37, Tryz.ntmps37
    go_wp2
    go_returns
    exact ⟨by first | rfl | (simp; omega), rfl⟩
  · have hv : bBl c = true := by unfold bBl; simp; omega
    rw [hv]
    clear hv
    go_enter Tryz.func37, Tryz.ntmps37
    go_wp2
    go_returns
    exact ⟨by first | rfl | (simp; omega), rfl⟩
  · have hv : bBl c = false := by unfold bBl; simp; omega
    rw [hv]
    clear hv
    go_enter Tryz.func37, Tryz.ntmps37
    go_wp2
    go_returns
    exact ⟨by first | rfl | (simp; omega), rfl⟩
theorem by_pr (c : Int) (w : World) (h0 : 0 ≤ c) (h1 : c ≤ 255) : Calls Tryz.prog 110 #[.int .u8 c] w fun e w' => e = .returned (.bool (bPr c)) ∧ w = w' := by
  rcases (by omega : (32 ≤ c ∧ c ≤ 126) ∨ (32 ≤ c ∧ 126 < c) ∨ (c < 32)) with ⟨k0, k1⟩ | ⟨k0, k1⟩ | k0
  · have hv : bPr c = true := by unfold bPr; simp; omega
    rw [hv]
    clear hv
    go_enter Tryz.func110, Tryz.ntmps110
    go_wp2
    go_returns
    exact ⟨by first | rfl | (simp; omega), rfl⟩
  · have hv : bPr c = false := by unfold bPr; simp; omega
    rw [hv]
    clear hv
    go_enter Tryz.func110, Tryz.ntmps110
    go_wp2
    go_returns
    exact ⟨by first | rfl | (simp; omega), rfl⟩
  · have hv : bPr c = false := by unfold bPr; simp; omega
    rw [hv]
    clear hv
    go_enter Tryz.func110, Tryz.ntmps110
    go_wp2
    go_returns
    exact ⟨by first | rfl | (simp; omega), rfl⟩
theorem by_di (c : Int) (w : World) (h0 : 0 ≤ c) (h1 : c ≤ 255) : Calls Tryz.prog 42 #[.int .u8 c] w fun e w' => e = .returned (.bool (bDi c)) ∧ w = w' := by
  rcases (by omega : (48 ≤ c ∧ c ≤ 57) ∨ (48 ≤ c ∧ 57 < c) ∨ (c < 48)) with ⟨k0, k1⟩ | ⟨k0, k1⟩ | k0
  · have hv : bDi c = true := by unfold bDi; simp; omega
    rw [hv]
    clear hv
    go_enter Tryz.func42, Tryz.ntmps42
    go_wp2
    go_returns
    exact ⟨by first | rfl | (simp; omega), rfl⟩
  · have hv : bDi c = false := by unfold bDi; simp; omega
    rw [hv]
    clear hv
    go_enter Tryz.func42, Tryz.ntmps42
    go_wp2
    go_returns
    exact ⟨by first | rfl | (simp; omega), rfl⟩
  · have hv : bDi c = false := by unfold bDi; simp; omega
    rw [hv]
    clear hv
    go_enter Tryz.func42, Tryz.ntmps42
    go_wp2
    go_returns
    exact ⟨by first | rfl | (simp; omega), rfl⟩
theorem by_sm (c : Int) (w : World) (h0 : 0 ≤ c) (h1 : c ≤ 255) : Calls Tryz.prog 44 #[.int .u8 c] w fun e w' => e = .returned (.bool (bSm c)) ∧ w = w' := by
  rcases (by omega : (97 ≤ c ∧ c ≤ 122) ∨ (97 ≤ c ∧ 122 < c) ∨ (c < 97)) with ⟨k0, k1⟩ | ⟨k0, k1⟩ | k0
  · have hv : bSm c = true := by unfold bSm; simp; omega
    rw [hv]
    clear hv
    go_enter Tryz.func44, Tryz.ntmps44
    go_wp2
    go_returns
    exact ⟨by first | rfl | (simp; omega), rfl⟩
  · have hv : bSm c = false := by unfold bSm; simp; omega
    rw [hv]
    clear hv
    go_enter Tryz.func44, Tryz.ntmps44
    go_wp2
    go_returns
    exact ⟨by first | rfl | (simp; omega), rfl⟩
  · have hv : bSm c = false := by unfold bSm; simp; omega
    rw [hv]
    clear hv
    go_enter Tryz.func44, Tryz.ntmps44
    go_wp2
    go_returns
    exact ⟨by first | rfl | (simp; omega), rfl⟩
theorem by_ca (c : Int) (w : World) (h0 : 0 ≤ c) (h1 : c ≤ 255) : Calls Tryz.prog 84 #[.int .u8 c] w fun e w' => e = .returned (.bool (bCa c)) ∧ w = w' := by
  rcases (by omega : (65 ≤ c ∧ c ≤ 90) ∨ (65 ≤ c ∧ 90 < c) ∨ (c < 65)) with ⟨k0, k1⟩ | ⟨k0, k1⟩ | k0
  · have hv : bCa c = true := by unfold bCa; simp; omega
    rw [hv]
    clear hv
    go_enter Tryz.func84, Tryz.ntmps84
    go_wp2
    go_returns
    exact ⟨by first | rfl | (simp; omega), rfl⟩
  · have hv : bCa c = false := by unfold bCa; simp; omega
    rw [hv]
    clear hv
    go_enter Tryz.func84, Tryz.ntmps84
    go_wp2
    go_returns
    exact ⟨by first | rfl | (simp; omega), rfl⟩
  · have hv : bCa c = false := by unfold bCa; simp; omega
    rw [hv]
    clear hv
    go_enter Tryz.func84, Tryz.ntmps84
    go_wp2
    go_returns
    exact ⟨by first | rfl | (simp; omega), rfl⟩
theorem by_tx (c : Int) (w : World) (h0 : 0 ≤ c) (h1 : c ≤ 255) : Calls Tryz.prog 77 #[.int .u8 c] w fun e w' => e = .returned (.bool (bTx c)) ∧ w = w' := by
  have H1 := fun w => by_pr c w h0 h1
  have H2 := fun w => by_bl c w h0 h1
  unfold bTx
  rcases Bool.eq_false_or_eq_true (bPr c) with hx | hx <;> rcases Bool.eq_false_or_eq_true (bBl c) with hy | hy
  all_goals
    rw [hx] at H1
    rw [hy] at H2
    rw [hx, hy]
    clear hx hy
    have K1 := Lib.hid H1
    have K2 := Lib.hid H2
    clear H1 H2
    go_enter Tryz.func77, Tryz.ntmps77
    go_wp2_with (first | (go_at_call 110; (with_reducible refine (K1.out _).mono ?_); rintro e w' ⟨rfl, rfl⟩) | (go_at_call 37; (with_reducible refine (K2.out _).mono ?_); rintro e w' ⟨rfl, rfl⟩))
    go_returns
    exact ⟨rfl, rfl⟩
theorem by_le (c : Int) (w : World) (h0 : 0 ≤ c) (h1 : c ≤ 255) : Calls Tryz.prog 88 #[.int .u8 c] w fun e w' => e = .returned (.bool (bLe c)) ∧ w = w' := by
  have H1 := fun w => by_sm c w h0 h1
  have H2 := fun w => by_ca c w h0 h1
  unfold bLe
  rcases Bool.eq_false_or_eq_true (bSm c) with hx | hx <;> rcases Bool.eq_false_or_eq_true (bCa c) with hy | hy
  all_goals
    rw [hx] at H1
    rw [hy] at H2
    rw [hx, hy]
    clear hx hy
    have K1 := Lib.hid H1
    have K2 := Lib.hid H2
    clear H1 H2
    go_enter Tryz.func88, Tryz.ntmps88
    go_wp2_with (first | (go_at_call 44; (with_reducible refine (K1.out _).mono ?_); rintro e w' ⟨rfl, rfl⟩) | (go_at_call 84; (with_reducible refine (K2.out _).mono ?_); rintro e w' ⟨rfl, rfl⟩))
    go_returns
    exact ⟨rfl, rfl⟩
theorem by_cd (c : Int) (w : World) (h0 : 0 ≤ c) (h1 : c ≤ 255) : Calls Tryz.prog 87 #[.int .u8 c] w fun e w' => e = .returned (.bool (bCd c)) ∧ w = w' := by
  have H1 := fun w => by_ca c w h0 h1
  have H2 := fun w => by_di c w h0 h1
  unfold bCd
  rcases Bool.eq_false_or_eq_true (bCa c) with hx | hx <;> rcases Bool.eq_false_or_eq_true (bDi c) with hy | hy
  all_goals
    rw [hx] at H1
    rw [hy] at H2
    rw [hx, hy]
    clear hx hy
    have K1 := Lib.hid H1
    have K2 := Lib.hid H2
    clear H1 H2
    go_enter Tryz.func87, Tryz.ntmps87
    go_wp2_with (first | (go_at_call 84; (with_reducible refine (K1.out _).mono ?_); rintro e w' ⟨rfl, rfl⟩) | (go_at_call 42; (with_reducible refine (K2.out _).mono ?_); rintro e w' ⟨rfl, rfl⟩))
    go_returns
    exact ⟨rfl, rfl⟩
theorem by_ld (c : Int) (w : World) (h0 : 0 ≤ c) (h1 : c ≤ 255) : Calls Tryz.prog 89 #[.int .u8 c] w fun e w' => e = .returned (.bool (bLd c)) ∧ w = w' := by
  have H1 := fun w => by_le c w h0 h1
  have H2 := fun w => by_di c w h0 h1
  unfold bLd
  rcases Bool.eq_false_or_eq_true (bLe c) with hx | hx <;> rcases Bool.eq_false_or_eq_true (bDi c) with hy | hy
  all_goals
    rw [hx] at H1
    rw [hy] at H2
    rw [hx, hy]
    clear hx hy
    have K1 := Lib.hid H1
    have K2 := Lib.hid H2
    clear H1 H2
    go_enter Tryz.func89, Tryz.ntmps89
    go_wp2_with (first | (go_at_call 88; (with_reducible refine (K1.out _).mono ?_); rintro e w' ⟨rfl, rfl⟩) | (go_at_call 42; (with_reducible refine (K2.out _).mono ?_); rintro e w' ⟨rfl, rfl⟩))
    go_returns
    exact ⟨rfl, rfl⟩
theorem by_sd (c : Int) (w : World) (h0 : 0 ≤ c) (h1 : c ≤ 255) : Calls Tryz.prog 47 #[.int .u8 c] w fun e w' => e = .returned (.bool (bSd c)) ∧ w = w' := by
  have H1 := fun w => by_sm c w h0 h1
  have H2 := fun w => by_di c w h0 h1
  unfold bSd
  rcases Bool.eq_false_or_eq_true (bSm c) with hx | hx <;> rcases Bool.eq_false_or_eq_true (bDi c) with hy | hy
  all_goals
    rw [hx] at H1
    rw [hy] at H2
    rw [hx, hy]
    clear hx hy
    have K1 := Lib.hid H1
    have K2 := Lib.hid H2
    clear H1 H2
    go_enter Tryz.func47, Tryz.ntmps47
    go_wp2_with (first | (go_at_call 44; (with_reducible refine (K1.out _).mono ?_); rintro e w' ⟨rfl, rfl⟩) | (go_at_call 42; (with_reducible refine (K2.out _).mono ?_); rintro e w' ⟨rfl, rfl⟩))
    go_returns
    exact ⟨rfl, rfl⟩
theorem by_hx (c : Int) (w : World) (h0 : 0 ≤ c) (h1 : c ≤ 255) : Calls Tryz.prog 123 #[.int .u8 c] w fun e w' => e = .returned (.bool (bHx c)) ∧ w = w' := by
  have H1 := fun w => by_di c w h0 h1
  rcases (by omega : (48 ≤ c ∧ c ≤ 57) ∨ (c < 48) ∨ (57 < c ∧ c < 97) ∨ (97 ≤ c ∧ c ≤ 102) ∨ 102 < c) with ⟨k0, k1⟩ | k0 | ⟨k0, k1⟩ | ⟨k0, k1⟩ | k0
  all_goals
    first
      | have hv : bHx c = true := by unfold bHx; simp; omega
      | have hv : bHx c = false := by unfold bHx; simp; omega
    first
      | have hd : bDi c = true := by unfold bDi; simp; omega
      | have hd : bDi c = false := by unfold bDi; simp; omega
    rw [hv]
    rw [hd] at H1
    clear hv hd
    have K1 := Lib.hid H1
    clear H1
    first
      | (have k3 : decide (97 ≤ c) = true := decide_eq_true (by omega))
      | (have k3 : decide (97 ≤ c) = false := decide_eq_false (by omega))
    first
      | (have k4 : decide (c ≤ 102) = true := decide_eq_true (by omega))
      | (have k4 : decide (c ≤ 102) = false := decide_eq_false (by omega))
    go_enter Tryz.func123, Tryz.ntmps123
    go_wp2_with (first | (go_at_call 42; (with_reducible refine (K1.out _).mono ?_); rintro e w' ⟨rfl, rfl⟩))
    go_returns
    exact ⟨rfl, rfl⟩
end Go.Proofs.YtbnldpcbdeeflaaGreatDoor
