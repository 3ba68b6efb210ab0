/- The scanner's looks at its text: a byte, blanks, a letter, the end of letters. Condition: the scanner's cells hold the text and the regime. -/
import Derived.Test.YtbnldpcbdeeflaaGreatDoorBy
import Derived.LoopTactic
namespace Go.Proofs.YtbnldpcbdeeflaaGreatDoor
open Go.ChangeShapes Go.WideShapes Go.ChangeAt Go.RowKit

/-- A byte of a text, 0 behind its end. -/
def pk (t : ByteArray) (i : Nat) : Int := if h : i < t.size then (t[i].toNat : Int) else 0
theorem pk_in {t : ByteArray} {i : Nat} (h : i < t.size) : pk t i = (t[i].toNat : Int) := by unfold pk; rw [dif_pos h]
theorem pk_out {t : ByteArray} {i : Nat} (h : t.size ≤ i) : pk t i = 0 := by unfold pk; rw [dif_neg (by omega)]
theorem pk_bd (t : ByteArray) (i : Nat) : 0 ≤ pk t i ∧ pk t i ≤ 255 := by
  unfold pk
  split
  · have := t[i].toNat_lt; omega
  · omega
theorem peek_any (t : ByteArray) (S i : Nat) (w : World) (c0 : w.cell? ⟨S, 0, none⟩ = some (.string t)) (hl : t.size ≤ 100000) (hi : i ≤ 200000) :
    Calls Tryz.prog 38 #[.pointer (some ⟨S, 0, none⟩), .int .i64 (i : Int)] w fun e w' => e = .returned (.int .u8 (pk t i)) ∧ w = w' := by
  by_cases h : i < t.size
  · rw [pk_in h]
    go_enter Tryz.func38, Tryz.ntmps38
    go_wp2
    go_returns
    exact ⟨rfl, rfl⟩
  · rw [pk_out (by omega)]
    have h' : t.size ≤ i := by omega
    go_enter Tryz.func38, Tryz.ntmps38
    go_wp2
    go_returns
    exact ⟨rfl, rfl⟩

/-- The first byte from a place on that is none of a kind which 0 is not of. -/
def ru (f : Int → Bool) (hf : f 0 = false) (t : ByteArray) (i : Nat) : Nat := if h : f (pk t i) = true then ru f hf t (i + 1) else i
termination_by t.size - i
decreasing_by
  have : i < t.size := by
    rcases Nat.lt_or_ge i t.size with h1 | h1
    · exact h1
    · rw [pk_out h1, hf] at h; cases h
  omega
theorem ru_yes {f : Int → Bool} {hf : f 0 = false} {t : ByteArray} {i : Nat} (h : f (pk t i) = true) : ru f hf t i = ru f hf t (i + 1) := by rw [ru, dif_pos h]
theorem ru_no {f : Int → Bool} {hf : f 0 = false} {t : ByteArray} {i : Nat} (h : f (pk t i) = false) : ru f hf t i = i := by rw [ru, dif_neg (by rw [h]; decide)]
theorem lt_of_yes {f : Int → Bool} (hf : f 0 = false) {t : ByteArray} {i : Nat} (h : f (pk t i) = true) : i < t.size := by
  rcases Nat.lt_or_ge i t.size with h1 | h1
  · exact h1
  · rw [pk_out h1, hf] at h; cases h
theorem ru_ge (f : Int → Bool) (hf : f 0 = false) (t : ByteArray) (i : Nat) : i ≤ ru f hf t i := by
  rw [ru]
  split
  · rename_i h
    have := lt_of_yes hf h
    have := ru_ge f hf t (i + 1)
    omega
  · omega
termination_by t.size - i
theorem ru_le (f : Int → Bool) (hf : f 0 = false) (t : ByteArray) (i : Nat) (hi : i ≤ t.size) : ru f hf t i ≤ t.size := by
  rw [ru]
  split
  · rename_i h
    have := lt_of_yes hf h
    exact ru_le f hf t (i + 1) (by omega)
  · exact hi
termination_by t.size - i
theorem bBl0 : bBl 0 = false := rfl
theorem bCd0 : bCd 0 = false := rfl
theorem bLd0 : bLd 0 = false := rfl
/-- Behind the blanks. -/
def sk (t : ByteArray) (i : Nat) : Nat := ru bBl bBl0 t i

set_option maxHeartbeats 1000000 in
theorem skip_any (t : ByteArray) (S i : Nat) (w : World) (c0 : w.cell? ⟨S, 0, none⟩ = some (.string t)) (hl : t.size ≤ 100000) (hi : i ≤ 100001) :
    Calls Tryz.prog 21 #[.pointer (some ⟨S, 0, none⟩), .int .i64 (i : Int)] w fun e w' => e = .returned (.int .i64 (sk t i : Int)) ∧ w = w' := by
  have C0 := Lib.hid c0
  have HL := Lib.hid hl
  clear c0 hl
  go_enter Tryz.func21, Tryz.ntmps21
  go_wp2
  go_loop [1] (fun v => ∃ k : Nat, i ≤ k ∧ k ≤ 100001 ∧ sk t k = sk t i ∧ v = .int .i64 k) (fun v => t.size - (intOf v).toNat)
  case atStart => exact ⟨i, Nat.le_refl _, hi, rfl, rfl⟩
  case round =>
    obtain ⟨k, hk, hk2, hs, rfl⟩ := hrel
    have HS := Lib.hid hs
    clear hs
    have hp := pk_bd t k
    have HP := Lib.hid (peek_any t S k w C0.out HL.out (by omega))
    obtain ⟨p, hpe⟩ : ∃ p, pk t k = p := ⟨_, rfl⟩
    have HE := Lib.hid hpe
    rw [hpe] at hp HP
    have HB := Lib.hid (fun w => by_bl p w hp.1 hp.2)
    clear hpe
    rcases Bool.eq_false_or_eq_true (bBl p) with hb | hb
    · have hlt : k < t.size := lt_of_yes bBl0 (by rw [HE.out]; exact hb)
      have HN := Lib.hid (show sk t (k + 1) = sk t i by rw [← HS.out]; exact (ru_yes (by rw [HE.out]; exact hb)).symm)
      have HT := Lib.hid hlt
      have HM := Lib.hid (show k ≤ 100000 by have := HL.out; omega)
      rw [hb] at HB
      clear hb hlt hk2
      have hk2 := HM.out
      go_wp2_with (first | (go_at_call 38; (with_reducible refine (HP.out).mono ?_); rintro e w' ⟨rfl, rfl⟩) | (go_at_call 37; (with_reducible refine (HB.out _).mono ?_); rintro e w' ⟨rfl, rfl⟩))
      go_round
      case rel => exact ⟨k + 1, by omega, by omega, HN.out, by go_num⟩
      case measure => have := HT.out; simp [intOf]; omega
    · have HN := Lib.hid (show sk t i = k by rw [← HS.out]; exact ru_no (by rw [HE.out]; exact hb))
      rw [hb] at HB
      clear hb
      go_wp2_with (first | (go_at_call 38; (with_reducible refine (HP.out).mono ?_); rintro e w' ⟨rfl, rfl⟩) | (go_at_call 37; (with_reducible refine (HB.out _).mono ?_); rintro e w' ⟨rfl, rfl⟩))
      go_returns
      exact ⟨by rw [HN.out]; rfl, rfl⟩
end Go.Proofs.YtbnldpcbdeeflaaGreatDoor
