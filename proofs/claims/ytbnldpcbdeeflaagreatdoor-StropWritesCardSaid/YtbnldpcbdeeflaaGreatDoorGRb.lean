/- The reference's tests of bytes: each is a plain function of the byte, and changes nothing. No condition. -/
import Derived.Test.YtbnldpcbdeeflaaGreatDoorBy
import Derived.Test.YtbnldpcbdeeflaaGreatDoorCh
import Derived.Test.YtbnldpcbdeeflaaGreatDoorSt
namespace Go.Proofs.YtbnldpcbdeeflaaGreatDoor
open Go.ChangeShapes Go.WideShapes Go.ChangeAt Go.RowKit

def loA (c : Int) : Int := if bCa c = true then c + 32 else c
def raA (c : Int) : Int := if bSm c = true then c - 32 else c
def hxA (c : Int) : Int := if bDi c = true then c - 48 else if 97 ≤ c ∧ c ≤ 102 then c - 97 + 10 else -1
theorem rb_bl (c : Int) (w : World) (h0 : 0 ≤ c) (h1 : c ≤ 255) : Calls Tryz.prog 52 #[.int .u8 c] w fun e w' => e = .returned (.bool (bBl c)) ∧ w = w' := by
  rcases (by omega : (c = 9) ∨ (c = 10) ∨ (c = 32) ∨ (c ≠ 9 ∧ c ≠ 10 ∧ c ≠ 32)) with k0 | k0 | k0 | ⟨k0, k1, k2⟩
  · have hv : bBl c = true := by unfold bBl; simp; omega
    rw [hv]
    clear hv
    go_enter Tryz.func52, Tryz.ntmps52
    go_wp2
    go_returns
    exact ⟨by first | rfl | (simp; omega), rfl⟩
  · have hv : bBl c = true := by unfold bBl; simp; omega
    rw [hv]
    clear hv
    go_enter Tryz.func52, Tryz.ntmps52
    go_wp2
    go_returns
    exact ⟨by first | rfl | (simp; omega), rfl⟩
  · have hv : bBl c = true := by unfold bBl; simp; omega
    rw [hv]
    clear hv
    go_enter Tryz.func52, Tryz.ntmps52
    go_wp2
    go_returns
    exact ⟨by first | rfl | (simp; omega), rfl⟩
  · have hv : bBl c = false := by unfold bBl; simp; omega
    rw [hv]
    clear hv
    go_enter Tryz.func52, Tryz.ntmps52
    go_wp2
    go_returns
    exact ⟨by first | rfl | (simp; omega), rfl⟩
theorem rb_di (c : Int) (w : World) (h0 : 0 ≤ c) (h1 : c ≤ 255) : Calls Tryz.prog 59 #[.int .u8 c] w fun e w' => e = .returned (.bool (bDi c)) ∧ w = w' := by
  rcases (by omega : (48 ≤ c ∧ c ≤ 57) ∨ (48 ≤ c ∧ 57 < c) ∨ (c < 48)) with ⟨k0, k1⟩ | ⟨k0, k1⟩ | k0
  · have hv : bDi c = true := by unfold bDi; simp; omega
    rw [hv]
    clear hv
    go_enter Tryz.func59, Tryz.ntmps59
    go_wp2
    go_returns
    exact ⟨by first | rfl | (simp; omega), rfl⟩
  · have hv : bDi c = false := by unfold bDi; simp; omega
    rw [hv]
    clear hv
    go_enter Tryz.func59, Tryz.ntmps59
    go_wp2
    go_returns
    exact ⟨by first | rfl | (simp; omega), rfl⟩
  · have hv : bDi c = false := by unfold bDi; simp; omega
    rw [hv]
    clear hv
    go_enter Tryz.func59, Tryz.ntmps59
    go_wp2
    go_returns
    exact ⟨by first | rfl | (simp; omega), rfl⟩
theorem rb_sm (c : Int) (w : World) (h0 : 0 ≤ c) (h1 : c ≤ 255) : Calls Tryz.prog 93 #[.int .u8 c] w fun e w' => e = .returned (.bool (bSm c)) ∧ w = w' := by
  rcases (by omega : (97 ≤ c ∧ c ≤ 122) ∨ (97 ≤ c ∧ 122 < c) ∨ (c < 97)) with ⟨k0, k1⟩ | ⟨k0, k1⟩ | k0
  · have hv : bSm c = true := by unfold bSm; simp; omega
    rw [hv]
    clear hv
    go_enter Tryz.func93, Tryz.ntmps93
    go_wp2
    go_returns
    exact ⟨by first | rfl | (simp; omega), rfl⟩
  · have hv : bSm c = false := by unfold bSm; simp; omega
    rw [hv]
    clear hv
    go_enter Tryz.func93, Tryz.ntmps93
    go_wp2
    go_returns
    exact ⟨by first | rfl | (simp; omega), rfl⟩
  · have hv : bSm c = false := by unfold bSm; simp; omega
    rw [hv]
    clear hv
    go_enter Tryz.func93, Tryz.ntmps93
    go_wp2
    go_returns
    exact ⟨by first | rfl | (simp; omega), rfl⟩
theorem rb_ca (c : Int) (w : World) (h0 : 0 ≤ c) (h1 : c ≤ 255) : Calls Tryz.prog 95 #[.int .u8 c] w fun e w' => e = .returned (.bool (bCa c)) ∧ w = w' := by
  rcases (by omega : (65 ≤ c ∧ c ≤ 90) ∨ (65 ≤ c ∧ 90 < c) ∨ (c < 65)) with ⟨k0, k1⟩ | ⟨k0, k1⟩ | k0
  · have hv : bCa c = true := by unfold bCa; simp; omega
    rw [hv]
    clear hv
    go_enter Tryz.func95, Tryz.ntmps95
    go_wp2
    go_returns
    exact ⟨by first | rfl | (simp; omega), rfl⟩
  · have hv : bCa c = false := by unfold bCa; simp; omega
    rw [hv]
    clear hv
    go_enter Tryz.func95, Tryz.ntmps95
    go_wp2
    go_returns
    exact ⟨by first | rfl | (simp; omega), rfl⟩
  · have hv : bCa c = false := by unfold bCa; simp; omega
    rw [hv]
    clear hv
    go_enter Tryz.func95, Tryz.ntmps95
    go_wp2
    go_returns
    exact ⟨by first | rfl | (simp; omega), rfl⟩
theorem rb_tx (c : Int) (w : World) (h0 : 0 ≤ c) (h1 : c ≤ 255) : Calls Tryz.prog 53 #[.int .u8 c] w fun e w' => e = .returned (.bool (bTx c)) ∧ w = w' := by
  rcases (by omega : (c = 9) ∨ (c = 10) ∨ (32 ≤ c ∧ c ≤ 126) ∨ (32 ≤ c ∧ 126 < c) ∨ (c < 32 ∧ c ≠ 9 ∧ c ≠ 10)) with k0 | k0 | ⟨k0, k1⟩ | ⟨k0, k1⟩ | ⟨k0, k1, k2⟩
  · have hv : bTx c = true := by unfold bTx bPr bBl; simp; omega
    rw [hv]
    clear hv
    go_enter Tryz.func53, Tryz.ntmps53
    go_wp2
    go_returns
    exact ⟨by first | rfl | (simp; omega), rfl⟩
  · have hv : bTx c = true := by unfold bTx bPr bBl; simp; omega
    rw [hv]
    clear hv
    go_enter Tryz.func53, Tryz.ntmps53
    go_wp2
    go_returns
    exact ⟨by first | rfl | (simp; omega), rfl⟩
  · have hv : bTx c = true := by unfold bTx bPr bBl; simp; omega
    rw [hv]
    clear hv
    go_enter Tryz.func53, Tryz.ntmps53
    go_wp2
    go_returns
    exact ⟨by first | rfl | (simp; omega), rfl⟩
  · have hv : bTx c = false := by unfold bTx bPr bBl; simp; omega
    rw [hv]
    clear hv
    go_enter Tryz.func53, Tryz.ntmps53
    go_wp2
    go_returns
    exact ⟨by first | rfl | (simp; omega), rfl⟩
  · have hv : bTx c = false := by unfold bTx bPr bBl; simp; omega
    rw [hv]
    clear hv
    go_enter Tryz.func53, Tryz.ntmps53
    go_wp2
    go_returns
    exact ⟨by first | rfl | (simp; omega), rfl⟩
theorem rb_lo (c : Int) (w : World) (h0 : 0 ≤ c) (h1 : c ≤ 255) : Calls Tryz.prog 69 #[.int .u8 c] w fun e w' => e = .returned (.int .u8 (loA c)) ∧ w = w' := by
  have H1 := fun w => rb_ca c w h0 h1
  unfold loA
  rcases Bool.eq_false_or_eq_true (bCa c) with hx | hx
  · rw [hx] at H1
    rw [if_pos hx]
    have q0 := of_decide_eq_true hx
    obtain ⟨q1, q2⟩ := q0
    clear hx
    have K1 := Lib.hid H1
    clear H1
    go_enter Tryz.func69, Tryz.ntmps69
    go_wp2_with (first | (go_at_call 95; (with_reducible refine (K1.out _).mono ?_); rintro e w' ⟨rfl, rfl⟩))
    go_returns
    exact ⟨rfl, rfl⟩
  · rw [hx] at H1
    rw [if_neg (by rw [hx]; decide)]
    clear hx
    have K1 := Lib.hid H1
    clear H1
    go_enter Tryz.func69, Tryz.ntmps69
    go_wp2_with (first | (go_at_call 95; (with_reducible refine (K1.out _).mono ?_); rintro e w' ⟨rfl, rfl⟩))
    go_returns
    exact ⟨rfl, rfl⟩
theorem rb_ra (c : Int) (w : World) (h0 : 0 ≤ c) (h1 : c ≤ 255) : Calls Tryz.prog 96 #[.int .u8 c] w fun e w' => e = .returned (.int .u8 (raA c)) ∧ w = w' := by
  have H1 := fun w => rb_sm c w h0 h1
  unfold raA
  rcases Bool.eq_false_or_eq_true (bSm c) with hx | hx
  · rw [hx] at H1
    rw [if_pos hx]
    have q0 := of_decide_eq_true hx
    obtain ⟨q1, q2⟩ := q0
    clear hx
    have K1 := Lib.hid H1
    clear H1
    go_enter Tryz.func96, Tryz.ntmps96
    go_wp2_with (first | (go_at_call 93; (with_reducible refine (K1.out _).mono ?_); rintro e w' ⟨rfl, rfl⟩))
    go_returns
    exact ⟨rfl, rfl⟩
  · rw [hx] at H1
    rw [if_neg (by rw [hx]; decide)]
    clear hx
    have K1 := Lib.hid H1
    clear H1
    go_enter Tryz.func96, Tryz.ntmps96
    go_wp2_with (first | (go_at_call 93; (with_reducible refine (K1.out _).mono ?_); rintro e w' ⟨rfl, rfl⟩))
    go_returns
    exact ⟨rfl, rfl⟩
theorem rb_hx (c : Int) (w : World) (h0 : 0 ≤ c) (h1 : c ≤ 255) : Calls Tryz.prog 99 #[.int .u8 c] w fun e w' => e = .returned (.int .i64 (hxA c)) ∧ w = w' := by
  have H1 := fun w => rb_di c w h0 h1
  unfold hxA
  rcases (by omega : (48 ≤ c ∧ c ≤ 57) ∨ (c < 48) ∨ (57 < c ∧ c < 97) ∨ (97 ≤ c ∧ c ≤ 102) ∨ 102 < c) with ⟨k0, k1⟩ | k0 | ⟨k0, k1⟩ | ⟨k0, k1⟩ | k0
  all_goals
    first
      | (have hd : bDi c = true := by unfold bDi; simp; omega)
      | (have hd : bDi c = false := by unfold bDi; simp; omega)
    rw [hd] at H1 ⊢
    clear hd
    have K1 := Lib.hid H1
    clear H1
    first
      | rw [if_pos rfl]
      | rw [if_neg (by decide), if_pos ⟨by omega, by omega⟩]
      | rw [if_neg (by decide), if_neg (by omega)]
    first
      | (have k3 : decide (97 ≤ c) = true := decide_eq_true (by omega))
      | (have k3 : decide (97 ≤ c) = false := decide_eq_false (by omega))
    first
      | (have k4 : decide (c ≤ 102) = true := decide_eq_true (by omega))
      | (have k4 : decide (c ≤ 102) = false := decide_eq_false (by omega))
    go_enter Tryz.func99, Tryz.ntmps99
    go_wp2_with (first | (go_at_call 59; (with_reducible refine (K1.out _).mono ?_); rintro e w' ⟨rfl, rfl⟩))
    go_returns
    exact ⟨rfl, rfl⟩
end Go.Proofs.YtbnldpcbdeeflaaGreatDoor
/- The reference's looks at its text: a byte, a letter, blanks. Condition: the scanner's cells hold the text and the regime. -/
namespace Go.Proofs.YtbnldpcbdeeflaaGreatDoor
open Go.ChangeShapes Go.WideShapes Go.ChangeAt Go.RowKit

theorem at_any (t : ByteArray) (S i : Nat) (w : World) (c0 : w.cell? ⟨S, 0, none⟩ = some (.string t)) (hl : t.size ≤ 100000) (hi : i ≤ 200000) :
    Calls Tryz.prog 60 #[.pointer (some ⟨S, 0, none⟩), .int .i64 (i : Int)] w fun e w' => e = .returned (.int .u8 (pk t i)) ∧ w = w' := by
  by_cases h : i < t.size
  · rw [pk_in h]
    go_enter Tryz.func60, Tryz.ntmps60
    go_wp2
    go_returns
    exact ⟨rfl, rfl⟩
  · rw [pk_out (by omega)]
    have h' : t.size ≤ i := by omega
    go_enter Tryz.func60, Tryz.ntmps60
    go_wp2
    go_returns
    exact ⟨rfl, rfl⟩
/-- A letter of tags in a regime. -/
def ltB (r c : Int) : Bool := bSm c || (decide (r ≠ 0) && bCa c)
theorem letter_any (S : Nat) (r c : Int) (w : World) (c2 : w.cell? ⟨S, 2, none⟩ = some (.int .i64 r)) (h0 : 0 ≤ c) (h1 : c ≤ 255) :
    Calls Tryz.prog 62 #[.pointer (some ⟨S, 0, none⟩), .int .u8 c] w fun e w' => e = .returned (.bool (ltB r c)) ∧ w = w' := by
  have H1 := fun w => rb_sm c w h0 h1
  have H2 := fun w => rb_ca c w h0 h1
  unfold ltB
  rcases Bool.eq_false_or_eq_true (bSm c) with hx | hx <;> rcases Bool.eq_false_or_eq_true (bCa c) with hy | hy <;> by_cases hr : r = 0
  all_goals
    rw [hx] at H1
    rw [hy] at H2
    rw [hx, hy]
    clear hx hy
    have K1 := Lib.hid H1
    have K2 := Lib.hid H2
    clear H1 H2
    first
      | (have k3 : (r != 0) = false := by simp [hr]; done)
      | (have k3 : (r != 0) = true := by simp [hr]; done)
    first
      | (have k4 : decide (r ≠ 0) = false := by simp [hr]; done)
      | (have k4 : decide (r ≠ 0) = true := by simp [hr]; done)
    rw [k4]
    clear hr k4
    go_enter Tryz.func62, Tryz.ntmps62
    go_wp2_with (first | (go_at_call 93; (with_reducible refine (K1.out _).mono ?_); rintro e w' ⟨rfl, rfl⟩) | (go_at_call 95; (with_reducible refine (K2.out _).mono ?_); rintro e w' ⟨rfl, rfl⟩))
    go_returns
    exact ⟨rfl, rfl⟩
set_option maxHeartbeats 1000000 in
theorem behind_any (t : ByteArray) (S i : Nat) (w : World) (c0 : w.cell? ⟨S, 0, none⟩ = some (.string t)) (hl : t.size ≤ 100000) (hi : i ≤ 100001) :
    Calls Tryz.prog 98 #[.pointer (some ⟨S, 0, none⟩), .int .i64 (i : Int)] w fun e w' => e = .returned (.int .i64 (sk t i : Int)) ∧ w = w' := by
  have C0 := Lib.hid c0
  have HL := Lib.hid hl
  clear hl
  go_enter Tryz.func98, Tryz.ntmps98
  go_wp2
  go_loop [1] (fun v => ∃ k : Nat, i ≤ k ∧ k ≤ 100001 ∧ sk t k = sk t i ∧ v = .int .i64 k) (fun v => t.size - (intOf v).toNat)
  case atStart => exact ⟨i, Nat.le_refl _, hi, rfl, rfl⟩
  case round =>
    obtain ⟨k, hk, hk2, hs, rfl⟩ := hrel
    have HS := Lib.hid hs
    clear hs
    have hl := HL.out
    by_cases hlt : k < t.size
    · have hp := pk_bd t k
      have hpi := (pk_in hlt).symm
      obtain ⟨p, hpe⟩ : ∃ p, pk t k = p := ⟨_, rfl⟩
      have HE := Lib.hid hpe
      rw [hpe] at hp hpi
      have HB := Lib.hid (fun w => rb_bl p w hp.1 hp.2)
      clear hpe
      rcases Bool.eq_false_or_eq_true (bBl p) with hb | hb
      · have HN := Lib.hid (show sk t (k + 1) = sk t i by rw [← HS.out]; exact (ru_yes (by rw [HE.out]; exact hb)).symm)
        rw [hb] at HB
        clear hb
        go_wp2_with (first | (go_at_call 52; (with_reducible refine (HB.out _).mono ?_); rintro e w' ⟨rfl, rfl⟩))
        go_round
        case rel => exact ⟨k + 1, by omega, by omega, HN.out, by go_num⟩
        case measure => simp [intOf]; omega
      · have HN := Lib.hid (show sk t i = k by rw [← HS.out]; exact ru_no (by rw [HE.out]; exact hb))
        rw [hb] at HB
        clear hb
        go_wp2_with (first | (go_at_call 52; (with_reducible refine (HB.out _).mono ?_); rintro e w' ⟨rfl, rfl⟩))
        go_returns
        exact ⟨by rw [HN.out]; rfl, rfl⟩
    · have hge : t.size ≤ k := by omega
      have HN := Lib.hid (show sk t i = k by rw [← HS.out]; exact ru_no (by rw [pk_out hge]; rfl))
      go_wp2
      go_returns
      exact ⟨by rw [HN.out]; rfl, rfl⟩
end Go.Proofs.YtbnldpcbdeeflaaGreatDoor
/- The reference's block, its faults and its list. Condition: its block and its list lie in blocks of the call's own. -/
namespace Go.Proofs.YtbnldpcbdeeflaaGreatDoor
open Go.ChangeShapes Go.WideShapes Go.ChangeAt Go.RowKit

/-- The reference's block: its text, its place, its regime, its list, its first error and where it is. -/
def Rc (w : World) (S : Nat) (t : ByteArray) (a r : Int) (v : Value) (e b : Int) : Prop := Own w S 49 [.string t, .int .i64 a, .int .i64 r, v, .int .i64 e, .int .i64 b]
theorem Rc.c0 {w : World} {S : Nat} {t : ByteArray} {a r : Int} {v : Value} {e b : Int} (h : Rc w S t a r v e b) : w.cell? ⟨S, 0, none⟩ = some (.string t) := Own.cell h 0
theorem Rc.c1 {w : World} {S : Nat} {t : ByteArray} {a r : Int} {v : Value} {e b : Int} (h : Rc w S t a r v e b) : w.cell? ⟨S, 1, none⟩ = some (.int .i64 a) := Own.cell h 1
theorem Rc.c2 {w : World} {S : Nat} {t : ByteArray} {a r : Int} {v : Value} {e b : Int} (h : Rc w S t a r v e b) : w.cell? ⟨S, 2, none⟩ = some (.int .i64 r) := Own.cell h 2
theorem Rc.c3 {w : World} {S : Nat} {t : ByteArray} {a r : Int} {v : Value} {e b : Int} (h : Rc w S t a r v e b) : w.cell? ⟨S, 3, none⟩ = some v := Own.cell h 3
theorem Rc.c4 {w : World} {S : Nat} {t : ByteArray} {a r : Int} {v : Value} {e b : Int} (h : Rc w S t a r v e b) : w.cell? ⟨S, 4, none⟩ = some (.int .i64 e) := Own.cell h 4
theorem Rc.lt {w : World} {S : Nat} {t : ByteArray} {a r : Int} {v : Value} {e b : Int} (h : Rc w S t a r v e b) : S < w.heap.size := Own.lt h
theorem Rc.kept {w w' : World} {S : Nat} {t : ByteArray} {a r : Int} {v : Value} {e b : Int} (h : Rc w S t a r v e b) (k : Below w.heap.size w w') : Rc w' S t a r v e b := Own.kept h k
theorem Rc.sl {w w' : World} {S B : Nat} {t : ByteArray} {a r : Int} {v : Value} {e b : Int} {l : List Sy} (h : Rc w S t a r v e b) (hL : Sl w B v l) (k : Below w.heap.size w w') : Sl w' B v l := hL.gb (Sl.ne hL h (by decide)) (Gb.of k)
theorem Rc.slgb {w w' : World} {S B : Nat} {t : ByteArray} {a r : Int} {v : Value} {e b : Int} {l : List Sy} (h : Rc w S t a r v e b) (hL : Sl w B v l) (k : Gb S w w') : Sl w' B v l := hL.gb (Sl.ne hL h (by decide)) k

theorem fail_new (S : Nat) (t : ByteArray) (a r : Int) (v : Value) (b c p : Int) (w : World) (hS : Rc w S t a r v 0 b) :
    Calls Tryz.prog 54 #[.pointer (some ⟨S, 0, none⟩), .int .i64 c, .int .i64 p] w fun x w' => x = .returned (.tuple #[]) ∧ Rc w' S t a r v c p ∧ Gb S w w' := by
  have c4 := hS.c4
  have hlt := hS.lt
  have fS := fun i => Own.frozen hS i
  have c5 : w.cell? ⟨S, 5, none⟩ = some (.int .i64 b) := Own.cell hS 5
  have HS := Lib.hid hS
  clear hS
  go_enter Tryz.func54, Tryz.ntmps54
  go_wp2
  go_returns
  exact ⟨rfl, (HS.out.put 4 (.int .i64 c)).put 5 (.int .i64 p), (by repeat' (first | (with_reducible assumption) | (with_reducible exact Gb.refl _ _) | (with_reducible refine Gb.alloc ?_ _) | (with_reducible refine Gb.set ?_ ?_ _) | (with_reducible refine Gb.drew ?_) | (with_reducible refine Gb.call ?_ (by assumption)) | (with_reducible exact Or.inl rfl) | (with_reducible exact Or.inr (Nat.le_refl _)) | omega | (simp; done) | (simp; omega)))⟩
theorem fail_old (S : Nat) (t : ByteArray) (a r : Int) (v : Value) (e b c p : Int) (w : World) (hS : Rc w S t a r v e b) (he : e ≠ 0) :
    Calls Tryz.prog 54 #[.pointer (some ⟨S, 0, none⟩), .int .i64 c, .int .i64 p] w fun x w' => x = .returned (.tuple #[]) ∧ w = w' := by
  have c4 := hS.c4
  have he2 : (e == 0) = false := by rw [beq_eq_false_iff_ne]; exact he
  clear hS he
  go_enter Tryz.func54, Tryz.ntmps54
  go_wp2
  go_returns
  exact ⟨rfl, rfl⟩
/-- append of one symbol to a list of the call's own. -/
theorem appS {ops : Array Oper} {rest : List Oper} {o : Oper} {a : Act} {Q : Exit → Act → World → Prop} (hgd : o.guard = none) (s x : Operand)
    (ho : o.op = .call { callee := .builtin .append, args := #[s, x], argTypes := #[23, 23] })
    (W : World) (B : Nat) (v : Value) (l : List Sy) (n : Sy) (hs : a.eval s = v) (hx : a.eval x = .slice (some ⟨W.heap.size, 0, none⟩) 1 1) (hown : Sl W B v l) (hl : l.length ≤ 1000000) (hB : B ≤ W.heap.size)
    (h : ∀ g' cap w', Sl w' B (.slice (some ⟨g', 0, none⟩) (l.length + 1) cap) (l ++ [n]) → (W.alloc (.cells #[.int .i64 n.1, .string n.2.1, .int .i64 n.2.2] 31)).grownBy w' v.ownBlock → wpList Tryz.prog ops Q rest (a.put o.dst (.slice (some ⟨g', 0, none⟩) (l.length + 1) cap)) w') :
    wpList Tryz.prog ops Q (o :: rest) a (W.alloc (.cells #[.int .i64 n.1, .string n.2.1, .int .i64 n.2.2] 31)) := by
  obtain ⟨i0, hi, hz0, hz1, hz2⟩ := info_parts sy_info
  refine wpList_append_own _ hgd s x 23 ho B _ i0 _ 3 32 Tryz.underlying23 hi hz0 hz1 hz2 rfl (by decide) v l.length (sy l) hs (hown.alloc _) ⟨W.heap.size, 0, none⟩ 1 1 [.int .i64 n.1, .string n.2.1, .int .i64 n.2.2] hx rfl ?_ ?_ (by unfold maxLen; omega) (by omega) (by simp; omega) ?_
  · intro j u hj
    have hg := Own.new W 31 [.int .i64 n.1, .string n.2.1, .int .i64 n.2.2]
    match j, hj with
    | 0, hj => obtain rfl := Option.some.inj hj; exact hg.cell 0
    | 1, hj => obtain rfl := Option.some.inj hj; exact hg.cell 1
    | 2, hj => obtain rfl := Option.some.inj hj; exact hg.cell 2
  · intro u hu
    simp at hu
    rcases hu with rfl | rfl | rfl <;> rfl
  · intro v' w' h1 h2 _
    obtain ⟨g', cap, rfl⟩ : ∃ g' cap, v' = .slice (some ⟨g', 0, none⟩) (l.length + 1) cap := by
      rcases h1.2 with ⟨_, h0⟩ | ⟨g', cap, cur, hv, _⟩
      · omega
      · exact ⟨g', cap, hv⟩
    refine h g' cap w' ?_ h2
    unfold Sl
    rw [List.length_append, List.length_singleton, sy_snoc]
    exact h1
set_option maxHeartbeats 2000000 in
theorem radd_any (B S : Nat) (t : ByteArray) (a r : Int) (v : Value) (e b k p z : Int) (x : ByteArray) (l : List Sy) (w : World) (hS : Rc w S t a r v e b) (hL : Sl w B v l) (hB : B ≤ S) (hl : l.length ≤ 1000000) :
    Calls Tryz.prog 58 #[.pointer (some ⟨S, 0, none⟩), .int .i64 k, .string x, .int .i64 p, .int .i64 z] w fun y w' => y = .returned (.tuple #[]) ∧ (∃ v', Rc w' S t z r v' e b ∧ Sl w' B v' (l ++ [(k, x, p)])) ∧ Below B w w' ∧ Ot S v w w' := by
  have hlt := hS.lt
  have hne := Sl.ne hL hS (by decide)
  have hBw : B ≤ w.heap.size := by omega
  have c3 := hS.c3
  have fS := fun i => Own.frozen hS i
  have HS := Lib.hid hS
  have HL := Lib.hid hL
  have HV : Hid (∀ k, v.ownBlock = some k → B ≤ k ∧ k < w.heap.size) := Lib.hid (fun k hk => World.ownsRow.lt hL k hk)
  have HN := Lib.hid hne
  clear hS hL hne
  go_enter Tryz.func58, Tryz.ntmps58
  go_wp2_with (at_builtin; refine appS rfl _ _ rfl w B v l (k, x, p) ?_ ?_ HL.out hl hBw ?_; rfl; rfl; intro g2 cap2 w2 hs2 hg2; (have hz2 := hg2.size); (simp only [World.size_alloc] at hz2); (have hS2 := Own.grown (Own.alloc HS.out _) hg2 HN.out); (have d3 : w2.cell? ⟨S, 3, none⟩ = some v := Own.cell hS2 3); (have d1 : w2.cell? ⟨S, 1, none⟩ = some (.int .i64 a) := Own.cell hS2 1); (have f3 := fun i => Own.frozen hS2 i); (have HS2 := Lib.hid hS2); clear hS2)
  go_returns
  refine ⟨rfl, ⟨.slice (some ⟨g2, 0, none⟩) (l.length + 1) cap2, ?_, ?_⟩, ?_, ?_⟩
  · exact (HS2.out.put 3 (.slice (some ⟨g2, 0, none⟩) (l.length + 1) cap2)).put 1 (.int .i64 z)
  · have n1 := Sl.ne hs2 HS2.out (by decide)
    exact (hs2.far n1 _).far n1 _
  · have hb : Below B w w2 := ((Below.refl B w).alloc hBw _).grown hg2 (by simp; omega) (fun k hk => (HV.out k hk).1)
    exact (hb.setCell (p := ⟨S, 3, none⟩) hB _).setCell (p := ⟨S, 1, none⟩) hB _
  · intro g hg h1 h2
    exact (Below.heap_setCell _ ⟨S, 1, none⟩ _ g h1).trans ((Below.heap_setCell w2 ⟨S, 3, none⟩ _ g h1).trans ((hg2.block g (by simp; omega) (fun e => h2 e.symm)).trans (Below.heap_alloc w _ g hg)))
end Go.Proofs.YtbnldpcbdeeflaaGreatDoor
