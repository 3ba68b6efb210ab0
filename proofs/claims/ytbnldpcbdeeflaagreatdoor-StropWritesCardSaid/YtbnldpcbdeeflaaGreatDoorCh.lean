/- The scanner's letters, and the end of a bold word. Condition: the scanner's cells hold the text and the regime. -/
import Derived.Test.YtbnldpcbdeeflaaGreatDoorPk
namespace Go.Proofs.YtbnldpcbdeeflaaGreatDoor
open Go.ChangeShapes Go.WideShapes Go.ChangeAt Go.RowKit

/-- The small letter or the digit that a byte is in a regime, or 0. -/
def chB (r c : Int) : Int := if (bCa c && decide (r ≠ 0)) = true then c - 65 + 97 else if bSd c = true then c else 0
def ch (r : Int) (t : ByteArray) (i : Nat) : Int := chB r (pk t i)
theorem chB0 (r : Int) : chB r 0 = 0 := by unfold chB; simp [bCa, bSd]
theorem chB_bd (r c : Int) (h0 : 0 ≤ c) (h1 : c ≤ 255) : 0 ≤ chB r c ∧ chB r c ≤ 255 := by
  unfold chB
  split
  · rename_i h
    rw [Bool.and_eq_true] at h
    have := of_decide_eq_true h.1
    omega
  · split <;> omega
theorem ch_out {r : Int} {t : ByteArray} {i : Nat} (h : t.size ≤ i) : ch r t i = 0 := by unfold ch; rw [pk_out h]; exact chB0 r
theorem ch_bd (r : Int) (t : ByteArray) (i : Nat) : 0 ≤ ch r t i ∧ ch r t i ≤ 255 := chB_bd r _ (pk_bd t i).1 (pk_bd t i).2
theorem char_cap (t : ByteArray) (S i : Nat) (r p : Int) (w : World) (c0 : w.cell? ⟨S, 0, none⟩ = some (.string t)) (c1 : w.cell? ⟨S, 1, none⟩ = some (.int .i64 r)) (hl : t.size ≤ 100000) (hi : i ≤ 200000) (hp : pk t i = p) (k1 : bCa p = true) (k2 : (r != 0) = true) :
    Calls Tryz.prog 45 #[.pointer (some ⟨S, 0, none⟩), .int .i64 (i : Int)] w fun e w' => e = .returned (.int .u8 (p - 65 + 97)) ∧ w = w' := by
  have hb := pk_bd t i
  have h1 := peek_any t S i w c0 hl hi
  rw [hp] at hb h1
  have HP := Lib.hid h1
  have H2 := Lib.hid (fun w => by_ca p w hb.1 hb.2)
  have H3 := Lib.hid (fun w => by_sd p w hb.1 hb.2)
  obtain ⟨hb0, hb1⟩ := hb
  have q0 : 65 ≤ p ∧ p ≤ 90 := of_decide_eq_true k1
  obtain ⟨q1, q2⟩ := q0
  rw [k1] at H2
  clear k1
  clear h1 hp hl hi
  go_enter Tryz.func45, Tryz.ntmps45
  go_wp2_with (first | (go_at_call 38; (with_reducible refine (HP.out).mono ?_); rintro e w' ⟨rfl, rfl⟩) | (go_at_call 84; (with_reducible refine (H2.out _).mono ?_); rintro e w' ⟨rfl, rfl⟩) | (go_at_call 47; (with_reducible refine (H3.out _).mono ?_); rintro e w' ⟨rfl, rfl⟩))
  go_returns
  exact ⟨rfl, rfl⟩
theorem char_u1 (t : ByteArray) (S i : Nat) (r p : Int) (w : World) (c0 : w.cell? ⟨S, 0, none⟩ = some (.string t)) (c1 : w.cell? ⟨S, 1, none⟩ = some (.int .i64 r)) (hl : t.size ≤ 100000) (hi : i ≤ 200000) (hp : pk t i = p) (k1 : bCa p = true) (k2 : (r != 0) = false) (k3 : bSd p = true) :
    Calls Tryz.prog 45 #[.pointer (some ⟨S, 0, none⟩), .int .i64 (i : Int)] w fun e w' => e = .returned (.int .u8 p) ∧ w = w' := by
  have hb := pk_bd t i
  have h1 := peek_any t S i w c0 hl hi
  rw [hp] at hb h1
  have HP := Lib.hid h1
  have H2 := Lib.hid (fun w => by_ca p w hb.1 hb.2)
  have H3 := Lib.hid (fun w => by_sd p w hb.1 hb.2)
  obtain ⟨hb0, hb1⟩ := hb
  rw [k1] at H2
  rw [k3] at H3
  clear k1 k3
  clear h1 hp hl hi
  go_enter Tryz.func45, Tryz.ntmps45
  go_wp2_with (first | (go_at_call 38; (with_reducible refine (HP.out).mono ?_); rintro e w' ⟨rfl, rfl⟩) | (go_at_call 84; (with_reducible refine (H2.out _).mono ?_); rintro e w' ⟨rfl, rfl⟩) | (go_at_call 47; (with_reducible refine (H3.out _).mono ?_); rintro e w' ⟨rfl, rfl⟩))
  go_returns
  exact ⟨rfl, rfl⟩
theorem char_u0 (t : ByteArray) (S i : Nat) (r p : Int) (w : World) (c0 : w.cell? ⟨S, 0, none⟩ = some (.string t)) (c1 : w.cell? ⟨S, 1, none⟩ = some (.int .i64 r)) (hl : t.size ≤ 100000) (hi : i ≤ 200000) (hp : pk t i = p) (k1 : bCa p = true) (k2 : (r != 0) = false) (k3 : bSd p = false) :
    Calls Tryz.prog 45 #[.pointer (some ⟨S, 0, none⟩), .int .i64 (i : Int)] w fun e w' => e = .returned (.int .u8 0) ∧ w = w' := by
  have hb := pk_bd t i
  have h1 := peek_any t S i w c0 hl hi
  rw [hp] at hb h1
  have HP := Lib.hid h1
  have H2 := Lib.hid (fun w => by_ca p w hb.1 hb.2)
  have H3 := Lib.hid (fun w => by_sd p w hb.1 hb.2)
  obtain ⟨hb0, hb1⟩ := hb
  rw [k1] at H2
  rw [k3] at H3
  clear k1 k3
  clear h1 hp hl hi
  go_enter Tryz.func45, Tryz.ntmps45
  go_wp2_with (first | (go_at_call 38; (with_reducible refine (HP.out).mono ?_); rintro e w' ⟨rfl, rfl⟩) | (go_at_call 84; (with_reducible refine (H2.out _).mono ?_); rintro e w' ⟨rfl, rfl⟩) | (go_at_call 47; (with_reducible refine (H3.out _).mono ?_); rintro e w' ⟨rfl, rfl⟩))
  go_returns
  exact ⟨rfl, rfl⟩
theorem char_l1 (t : ByteArray) (S i : Nat) (r p : Int) (w : World) (c0 : w.cell? ⟨S, 0, none⟩ = some (.string t)) (c1 : w.cell? ⟨S, 1, none⟩ = some (.int .i64 r)) (hl : t.size ≤ 100000) (hi : i ≤ 200000) (hp : pk t i = p) (k1 : bCa p = false)  (k3 : bSd p = true) :
    Calls Tryz.prog 45 #[.pointer (some ⟨S, 0, none⟩), .int .i64 (i : Int)] w fun e w' => e = .returned (.int .u8 p) ∧ w = w' := by
  have hb := pk_bd t i
  have h1 := peek_any t S i w c0 hl hi
  rw [hp] at hb h1
  have HP := Lib.hid h1
  have H2 := Lib.hid (fun w => by_ca p w hb.1 hb.2)
  have H3 := Lib.hid (fun w => by_sd p w hb.1 hb.2)
  obtain ⟨hb0, hb1⟩ := hb
  rw [k1] at H2
  rw [k3] at H3
  clear k1 k3
  clear h1 hp hl hi
  go_enter Tryz.func45, Tryz.ntmps45
  go_wp2_with (first | (go_at_call 38; (with_reducible refine (HP.out).mono ?_); rintro e w' ⟨rfl, rfl⟩) | (go_at_call 84; (with_reducible refine (H2.out _).mono ?_); rintro e w' ⟨rfl, rfl⟩) | (go_at_call 47; (with_reducible refine (H3.out _).mono ?_); rintro e w' ⟨rfl, rfl⟩))
  go_returns
  exact ⟨rfl, rfl⟩
theorem char_l0 (t : ByteArray) (S i : Nat) (r p : Int) (w : World) (c0 : w.cell? ⟨S, 0, none⟩ = some (.string t)) (c1 : w.cell? ⟨S, 1, none⟩ = some (.int .i64 r)) (hl : t.size ≤ 100000) (hi : i ≤ 200000) (hp : pk t i = p) (k1 : bCa p = false)  (k3 : bSd p = false) :
    Calls Tryz.prog 45 #[.pointer (some ⟨S, 0, none⟩), .int .i64 (i : Int)] w fun e w' => e = .returned (.int .u8 0) ∧ w = w' := by
  have hb := pk_bd t i
  have h1 := peek_any t S i w c0 hl hi
  rw [hp] at hb h1
  have HP := Lib.hid h1
  have H2 := Lib.hid (fun w => by_ca p w hb.1 hb.2)
  have H3 := Lib.hid (fun w => by_sd p w hb.1 hb.2)
  obtain ⟨hb0, hb1⟩ := hb
  rw [k1] at H2
  rw [k3] at H3
  clear k1 k3
  clear h1 hp hl hi
  go_enter Tryz.func45, Tryz.ntmps45
  go_wp2_with (first | (go_at_call 38; (with_reducible refine (HP.out).mono ?_); rintro e w' ⟨rfl, rfl⟩) | (go_at_call 84; (with_reducible refine (H2.out _).mono ?_); rintro e w' ⟨rfl, rfl⟩) | (go_at_call 47; (with_reducible refine (H3.out _).mono ?_); rintro e w' ⟨rfl, rfl⟩))
  go_returns
  exact ⟨rfl, rfl⟩
theorem char_any (t : ByteArray) (S i : Nat) (r : Int) (w : World) (c0 : w.cell? ⟨S, 0, none⟩ = some (.string t)) (c1 : w.cell? ⟨S, 1, none⟩ = some (.int .i64 r)) (hl : t.size ≤ 100000) (hi : i ≤ 200000) :
    Calls Tryz.prog 45 #[.pointer (some ⟨S, 0, none⟩), .int .i64 (i : Int)] w fun e w' => e = .returned (.int .u8 (ch r t i)) ∧ w = w' := by
  unfold ch chB
  by_cases hr : r = 0
  · have e : decide (r ≠ 0) = false := decide_eq_false (by omega)
    rw [e, Bool.and_false, if_neg (by decide)]
    have k2 : (r != 0) = false := by rw [hr]; rfl
    cases ha : bCa (pk t i) <;> cases hs : bSd (pk t i)
    · exact char_l0 t S i r _ w c0 c1 hl hi rfl ha hs
    · exact char_l1 t S i r _ w c0 c1 hl hi rfl ha hs
    · exact char_u0 t S i r _ w c0 c1 hl hi rfl ha k2 hs
    · exact char_u1 t S i r _ w c0 c1 hl hi rfl ha k2 hs
  · have e : decide (r ≠ 0) = true := decide_eq_true hr
    rw [e, Bool.and_true]
    have k2 : (r != 0) = true := by rw [bne_iff_ne]; exact hr
    cases ha : bCa (pk t i)
    · rw [if_neg (by decide)]
      cases hs : bSd (pk t i)
      · exact char_l0 t S i r _ w c0 c1 hl hi rfl ha hs
      · exact char_l1 t S i r _ w c0 c1 hl hi rfl ha hs
    · exact char_cap t S i r _ w c0 c1 hl hi rfl ha k2
set_option maxHeartbeats 1000000 in
theorem endOf_cd (t : ByteArray) (S i : Nat) (w : World) (c0 : w.cell? ⟨S, 0, none⟩ = some (.string t)) (hl : t.size ≤ 100000) (hi : i ≤ 100001) :
    Calls Tryz.prog 86 #[.pointer (some ⟨S, 0, none⟩), .int .i64 (i : Int), .func (.func 87) #[] #[]] w fun e w' => e = .returned (.int .i64 (ru bCd bCd0 t i : Int)) ∧ w = w' := by
  have C0 := Lib.hid c0
  have HL := Lib.hid hl
  clear c0 hl
  go_enter Tryz.func86, Tryz.ntmps86
  go_wp2
  go_loop [1] (fun v => ∃ k : Nat, i ≤ k ∧ k ≤ 100001 ∧ ru bCd bCd0 t k = ru bCd bCd0 t i ∧ v = .int .i64 k) (fun v => t.size - (intOf v).toNat)
  case atStart => exact ⟨i, Nat.le_refl _, hi, rfl, rfl⟩
  case round =>
    obtain ⟨k, hk, hk2, hs, rfl⟩ := hrel
    have HS := Lib.hid hs
    clear hs
    have hp := pk_bd t k
    have HP := Lib.hid (peek_any t S k w C0.out HL.out (by omega))
    obtain ⟨p, hpe⟩ : ∃ p, pk t k = p := ⟨_, rfl⟩
    have HE := Lib.hid hpe
    rw [hpe] at hp HP
    have HB := Lib.hid (fun w => by_cd p w hp.1 hp.2)
    clear hpe
    rcases Bool.eq_false_or_eq_true (bCd p) with hb | hb
    · have hlt : k < t.size := lt_of_yes bCd0 (by rw [HE.out]; exact hb)
      have HN := Lib.hid (show ru bCd bCd0 t (k + 1) = ru bCd bCd0 t i by rw [← HS.out]; exact (ru_yes (by rw [HE.out]; exact hb)).symm)
      have HT := Lib.hid hlt
      have HM := Lib.hid (show k ≤ 100000 by have := HL.out; omega)
      rw [hb] at HB
      clear hb hlt hk2
      have hk2 := HM.out
      go_wp2_with (first | (go_at_call 38; (with_reducible refine (HP.out).mono ?_); rintro e w' ⟨rfl, rfl⟩) | (go_at_call 87; (with_reducible refine (HB.out _).mono ?_); rintro e w' ⟨rfl, rfl⟩))
      go_round
      case rel => exact ⟨k + 1, by omega, by omega, HN.out, by go_num⟩
      case measure => have := HT.out; simp [intOf]; omega
    · have HN := Lib.hid (show ru bCd bCd0 t i = k by rw [← HS.out]; exact ru_no (by rw [HE.out]; exact hb))
      rw [hb] at HB
      clear hb
      go_wp2_with (first | (go_at_call 38; (with_reducible refine (HP.out).mono ?_); rintro e w' ⟨rfl, rfl⟩) | (go_at_call 87; (with_reducible refine (HB.out _).mono ?_); rintro e w' ⟨rfl, rfl⟩))
      go_returns
      exact ⟨by rw [HN.out]; rfl, rfl⟩
set_option maxHeartbeats 1000000 in
theorem endOf_ld (t : ByteArray) (S i : Nat) (w : World) (c0 : w.cell? ⟨S, 0, none⟩ = some (.string t)) (hl : t.size ≤ 100000) (hi : i ≤ 100001) :
    Calls Tryz.prog 86 #[.pointer (some ⟨S, 0, none⟩), .int .i64 (i : Int), .func (.func 89) #[] #[]] w fun e w' => e = .returned (.int .i64 (ru bLd bLd0 t i : Int)) ∧ w = w' := by
  have C0 := Lib.hid c0
  have HL := Lib.hid hl
  clear c0 hl
  go_enter Tryz.func86, Tryz.ntmps86
  go_wp2
  go_loop [1] (fun v => ∃ k : Nat, i ≤ k ∧ k ≤ 100001 ∧ ru bLd bLd0 t k = ru bLd bLd0 t i ∧ v = .int .i64 k) (fun v => t.size - (intOf v).toNat)
  case atStart => exact ⟨i, Nat.le_refl _, hi, rfl, rfl⟩
  case round =>
    obtain ⟨k, hk, hk2, hs, rfl⟩ := hrel
    have HS := Lib.hid hs
    clear hs
    have hp := pk_bd t k
    have HP := Lib.hid (peek_any t S k w C0.out HL.out (by omega))
    obtain ⟨p, hpe⟩ : ∃ p, pk t k = p := ⟨_, rfl⟩
    have HE := Lib.hid hpe
    rw [hpe] at hp HP
    have HB := Lib.hid (fun w => by_ld p w hp.1 hp.2)
    clear hpe
    rcases Bool.eq_false_or_eq_true (bLd p) with hb | hb
    · have hlt : k < t.size := lt_of_yes bLd0 (by rw [HE.out]; exact hb)
      have HN := Lib.hid (show ru bLd bLd0 t (k + 1) = ru bLd bLd0 t i by rw [← HS.out]; exact (ru_yes (by rw [HE.out]; exact hb)).symm)
      have HT := Lib.hid hlt
      have HM := Lib.hid (show k ≤ 100000 by have := HL.out; omega)
      rw [hb] at HB
      clear hb hlt hk2
      have hk2 := HM.out
      go_wp2_with (first | (go_at_call 38; (with_reducible refine (HP.out).mono ?_); rintro e w' ⟨rfl, rfl⟩) | (go_at_call 89; (with_reducible refine (HB.out _).mono ?_); rintro e w' ⟨rfl, rfl⟩))
      go_round
      case rel => exact ⟨k + 1, by omega, by omega, HN.out, by go_num⟩
      case measure => have := HT.out; simp [intOf]; omega
    · have HN := Lib.hid (show ru bLd bLd0 t i = k by rw [← HS.out]; exact ru_no (by rw [HE.out]; exact hb))
      rw [hb] at HB
      clear hb
      go_wp2_with (first | (go_at_call 38; (with_reducible refine (HP.out).mono ?_); rintro e w' ⟨rfl, rfl⟩) | (go_at_call 89; (with_reducible refine (HB.out _).mono ?_); rintro e w' ⟨rfl, rfl⟩))
      go_returns
      exact ⟨by rw [HN.out]; rfl, rfl⟩
end Go.Proofs.YtbnldpcbdeeflaaGreatDoor
