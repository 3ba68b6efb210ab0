/- The scanner's bold words. Condition: the scanner's cells hold the text and the regime. -/
import Derived.Test.YtbnldpcbdeeflaaGreatDoorCm
import Derived.Test.YtbnldpcbdeeflaaGreatDoorShelf
namespace Go.Proofs.YtbnldpcbdeeflaaGreatDoor
open Go.ChangeShapes Go.WideShapes Go.ChangeAt Go.RowKit

/-- A piece of a text in capital letters. -/
def upW (t : ByteArray) (a b : Nat) : ByteArray := ⟨(Lib.toUpperA (List.take (b - a) (List.drop a t.data.toList))).toArray⟩
/-- The bold word that begins at a place, and the index behind it, or no text. -/
def bdF (r : Int) (t : ByteArray) (i : Nat) : ByteArray × Nat :=
  if r = 0 then (if bCa (pk t i) = true then (t.extract i (ru bCd bCd0 t i), ru bCd bCd0 t i) else (⟨#[]⟩, i))
  else if r = 2 then (if pk t i = 39 ∧ bLe (pk t (i + 1)) = true ∧ pk t (ru bLd bLd0 t (i + 1)) = 39 then (upW t (i + 1) (ru bLd bLd0 t (i + 1)), ru bLd bLd0 t (i + 1) + 1) else (⟨#[]⟩, i))
  else (if pk t i = 46 ∧ bLe (pk t (i + 1)) = true then (upW t (i + 1) (ru bLd bLd0 t (i + 1)), ru bLd bLd0 t (i + 1)) else (⟨#[]⟩, i))
theorem ru_all (f : Int → Bool) (hf : f 0 = false) (t : ByteArray) (i : Nat) : ∀ j, i ≤ j → j < ru f hf t i → f (pk t j) = true := by
  intro j h1 h2
  rw [ru] at h2
  by_cases h : f (pk t i) = true
  · rw [dif_pos h] at h2
    by_cases e : i = j
    · subst e; exact h
    · exact ru_all f hf t (i + 1) j (by omega) h2
  · rw [dif_neg h] at h2; omega
termination_by t.size - i
decreasing_by
  have := lt_of_yes hf h
  omega
theorem word_ascii (t : ByteArray) (i : Nat) (hi : i ≤ t.size) : ∀ (j : Nat) (b : UInt8), (t.extract i (ru bLd bLd0 t i)).data.toList[j]? = some b → b.toNat < 128 := by
  intro j b hj
  have hle := ru_le bLd bLd0 t i hi
  rw [Lib.extract_data, List.getElem?_take] at hj
  split at hj
  · rename_i h
    rw [List.getElem?_drop] at hj
    have h1 := ru_all bLd bLd0 t i (i + j) (by omega) (by omega)
    have hlt : i + j < t.size := by omega
    rw [pk_in hlt] at h1
    have hb : t[i + j] = b := by
      have h2 : t.data.toList[i + j]? = some t[i + j] := by rw [Array.getElem?_toList]; exact Array.getElem?_eq_getElem hlt
      rw [h2] at hj
      exact Option.some.inj hj
    rw [hb] at h1
    unfold bLd bLe bSm bCa bDi at h1
    simp only [Bool.or_eq_true, decide_eq_true_eq] at h1
    omega
  · cases hj
set_option maxHeartbeats 1000000 in
theorem bold_un (t : ByteArray) (S i : Nat) (r : Int) (w : World) (c0 : w.cell? ⟨S, 0, none⟩ = some (.string t)) (c1 : w.cell? ⟨S, 1, none⟩ = some (.int .i64 r)) (hl : t.size ≤ 100000) (hi : i ≤ t.size) (kr : (r == 0) = true) (k1 : bCa (pk t i) = false) :
    Calls Tryz.prog 49 #[.pointer (some ⟨S, 0, none⟩), .int .i64 (i : Int)] w fun e w' => e = .returned (.tuple #[.string ⟨#[]⟩, .int .i64 (i : Int)]) ∧ w = w' := by
  have hb := pk_bd t i
  have HP := Lib.hid (peek_any t S i w c0 hl (by omega))
  have h2 := fun w => by_ca (pk t i) w hb.1 hb.2
  rw [k1] at h2
  have H2 := Lib.hid h2
  clear h2 k1
  go_enter Tryz.func49, Tryz.ntmps49
  go_wp2_with (first | (go_at_call 38; (with_reducible refine (HP.out).mono ?_); rintro e w' ⟨rfl, rfl⟩) | (go_at_call 84; (with_reducible refine (H2.out _).mono ?_); rintro e w' ⟨rfl, rfl⟩))
  go_ret2
  exact ⟨rfl, rfl⟩
set_option maxHeartbeats 1000000 in
theorem bold_uy (t : ByteArray) (S i : Nat) (r : Int) (w : World) (c0 : w.cell? ⟨S, 0, none⟩ = some (.string t)) (c1 : w.cell? ⟨S, 1, none⟩ = some (.int .i64 r)) (hl : t.size ≤ 100000) (hi : i ≤ t.size) (kr : (r == 0) = true) (k1 : bCa (pk t i) = true) (k : Nat) (hk : ru bCd bCd0 t i = k) :
    Calls Tryz.prog 49 #[.pointer (some ⟨S, 0, none⟩), .int .i64 (i : Int)] w fun e w' => e = .returned (.tuple #[.string (t.extract i k), .int .i64 (k : Int)]) ∧ w = w' := by
  have hb := pk_bd t i
  have HP := Lib.hid (peek_any t S i w c0 hl (by omega))
  have h2 := fun w => by_ca (pk t i) w hb.1 hb.2
  rw [k1] at h2
  have H2 := Lib.hid h2
  have h3 := endOf_cd t S i w c0 hl (by omega)
  rw [hk] at h3
  have H3 := Lib.hid h3
  have hk1 : i ≤ k := by rw [← hk]; exact ru_ge _ _ _ _
  have hk2 : k ≤ t.size := by rw [← hk]; exact ru_le _ _ _ _ hi
  clear h2 h3 k1 hk
  go_enter Tryz.func49, Tryz.ntmps49
  go_wp2_with (first | (go_at_call 38; (with_reducible refine (HP.out).mono ?_); rintro e w' ⟨rfl, rfl⟩) | (go_at_call 84; (with_reducible refine (H2.out _).mono ?_); rintro e w' ⟨rfl, rfl⟩) | (go_at_call 86; (with_reducible refine (H3.out).mono ?_); rintro e w' ⟨rfl, rfl⟩))
  go_ret2
  exact ⟨rfl, rfl⟩
set_option maxHeartbeats 1000000 in
theorem bold_pa (t : ByteArray) (S i : Nat) (r : Int) (w : World) (c0 : w.cell? ⟨S, 0, none⟩ = some (.string t)) (c1 : w.cell? ⟨S, 1, none⟩ = some (.int .i64 r)) (hl : t.size ≤ 100000) (hi : i ≤ t.size) (kr : (r == 0) = false) (kq : (r == 2) = false) (k1 : (pk t i != 46) = true) :
    Calls Tryz.prog 49 #[.pointer (some ⟨S, 0, none⟩), .int .i64 (i : Int)] w fun e w' => e = .returned (.tuple #[.string ⟨#[]⟩, .int .i64 (i : Int)]) ∧ w = w' := by
  obtain ⟨p, hp⟩ : ∃ p, pk t i = p := ⟨_, rfl⟩
  have h1 := peek_any t S i w c0 hl (by omega)
  rw [hp] at h1 k1
  have HP := Lib.hid h1
  clear h1 hp
  go_enter Tryz.func49, Tryz.ntmps49
  go_wp2_with (first | (go_at_call 38; (with_reducible refine (HP.out).mono ?_); rintro e w' ⟨rfl, rfl⟩))
  go_ret2
  exact ⟨rfl, rfl⟩
set_option maxHeartbeats 1000000 in
theorem bold_pb (t : ByteArray) (S i : Nat) (r : Int) (w : World) (c0 : w.cell? ⟨S, 0, none⟩ = some (.string t)) (c1 : w.cell? ⟨S, 1, none⟩ = some (.int .i64 r)) (hl : t.size ≤ 100000) (hi : i ≤ t.size) (kr : (r == 0) = false) (kq : (r == 2) = false) (k1 : (pk t i != 46) = false) (k2 : bLe (pk t (i + 1)) = false) :
    Calls Tryz.prog 49 #[.pointer (some ⟨S, 0, none⟩), .int .i64 (i : Int)] w fun e w' => e = .returned (.tuple #[.string ⟨#[]⟩, .int .i64 (i : Int)]) ∧ w = w' := by
  obtain ⟨p, hp⟩ : ∃ p, pk t i = p := ⟨_, rfl⟩
  have h1 := peek_any t S i w c0 hl (by omega)
  rw [hp] at h1 k1
  have HP := Lib.hid h1
  obtain ⟨q, hq⟩ : ∃ q, pk t (i + 1) = q := ⟨_, rfl⟩
  have h2 := peek_any t S (i + 1) w c0 hl (by omega)
  have hqb := pk_bd t (i + 1)
  rw [show ((i + 1 : Nat) : Int) = (i : Int) + 1 by omega, hq] at h2
  have HQ := Lib.hid h2
  rw [hq] at k2 hqb
  have h3 := fun w => by_le q w hqb.1 hqb.2
  rw [k2] at h3
  have H3 := Lib.hid h3
  clear h1 hp h2 hq h3 k2
  go_enter Tryz.func49, Tryz.ntmps49
  go_wp2_with (first | (go_at_call 38; (with_reducible refine (HP.out).mono ?_); rintro e w' ⟨rfl, rfl⟩) | (go_at_call 38; (with_reducible refine (HQ.out).mono ?_); rintro e w' ⟨rfl, rfl⟩) | (go_at_call 88; (with_reducible refine (H3.out _).mono ?_); rintro e w' ⟨rfl, rfl⟩))
  go_ret2
  exact ⟨rfl, rfl⟩
set_option maxHeartbeats 1000000 in
theorem bold_pc (t : ByteArray) (S i : Nat) (r : Int) (w : World) (c0 : w.cell? ⟨S, 0, none⟩ = some (.string t)) (c1 : w.cell? ⟨S, 1, none⟩ = some (.int .i64 r)) (hl : t.size ≤ 100000) (hi : i ≤ t.size) (kr : (r == 0) = false) (kq : (r == 2) = false) (k1 : (pk t i != 46) = false) (k2 : bLe (pk t (i + 1)) = true) (k : Nat) (hk : ru bLd bLd0 t (i + 1) = k) :
    Calls Tryz.prog 49 #[.pointer (some ⟨S, 0, none⟩), .int .i64 (i : Int)] w fun e w' => e = .returned (.tuple #[.string (upW t (i + 1) k), .int .i64 (k : Int)]) ∧ Below w.heap.size w w' := by
  have hS := cell_lt c0
  simp only at hS
  have hi2 : i + 1 ≤ t.size := by have := lt_of_yes (f := bLe) rfl k2; omega
  have h4 := endOf_ld t S (i + 1) w c0 hl (by omega)
  rw [show ((i + 1 : Nat) : Int) = (i : Int) + 1 by omega, hk] at h4
  have H4 := Lib.hid h4
  have hk1 : i + 1 ≤ k := by rw [← hk]; exact ru_ge _ _ _ _
  have hk2 : k ≤ t.size := by rw [← hk]; exact ru_le _ _ _ _ hi2
  have hup := fun w => Tryz.strings_ToUpper_ascii (t.extract (i + 1) k) w (by rw [ByteArray.size_extract]; omega) (by rw [← hk]; exact word_ascii t (i + 1) hi2)
  have HU := Lib.hid hup
  clear h4 hk hup
  obtain ⟨p, hp⟩ : ∃ p, pk t i = p := ⟨_, rfl⟩
  have h1 := peek_any t S i w c0 hl (by omega)
  rw [hp] at h1 k1
  have HP := Lib.hid h1
  obtain ⟨q, hq⟩ : ∃ q, pk t (i + 1) = q := ⟨_, rfl⟩
  have h2 := peek_any t S (i + 1) w c0 hl (by omega)
  have hqb := pk_bd t (i + 1)
  rw [show ((i + 1 : Nat) : Int) = (i : Int) + 1 by omega, hq] at h2
  have HQ := Lib.hid h2
  rw [hq] at k2 hqb
  have h3 := fun w => by_le q w hqb.1 hqb.2
  rw [k2] at h3
  have H3 := Lib.hid h3
  clear h1 hp h2 hq h3 k2
  go_enter Tryz.func49, Tryz.ntmps49
  go_wp2_with (first | (go_at_call 38; (with_reducible refine (HP.out).mono ?_); rintro e w' ⟨rfl, rfl⟩) | (go_at_call 38; (with_reducible refine (HQ.out).mono ?_); rintro e w' ⟨rfl, rfl⟩) | (go_at_call 88; (with_reducible refine (H3.out _).mono ?_); rintro e w' ⟨rfl, rfl⟩) | (go_at_call 86; (with_reducible refine (H4.out).mono ?_); rintro e w' ⟨rfl, rfl⟩) | (go_at_call 90; (with_reducible refine (HU.out _).mono ?_); rintro e w1 ⟨rfl, hb1⟩; obtain ⟨hc1, hf1⟩ := bcell hb1))
  go_ret2
  exact ⟨rfl, hb1⟩
set_option maxHeartbeats 1000000 in
theorem bold_qa (t : ByteArray) (S i : Nat) (r : Int) (w : World) (c0 : w.cell? ⟨S, 0, none⟩ = some (.string t)) (c1 : w.cell? ⟨S, 1, none⟩ = some (.int .i64 r)) (hl : t.size ≤ 100000) (hi : i ≤ t.size) (kr : (r == 0) = false) (kq : (r == 2) = true) (k1 : (pk t i != 39) = true) :
    Calls Tryz.prog 49 #[.pointer (some ⟨S, 0, none⟩), .int .i64 (i : Int)] w fun e w' => e = .returned (.tuple #[.string ⟨#[]⟩, .int .i64 (i : Int)]) ∧ w = w' := by
  obtain ⟨p, hp⟩ : ∃ p, pk t i = p := ⟨_, rfl⟩
  have h1 := peek_any t S i w c0 hl (by omega)
  rw [hp] at h1 k1
  have HP := Lib.hid h1
  clear h1 hp
  go_enter Tryz.func49, Tryz.ntmps49
  go_wp2_with (first | (go_at_call 38; (with_reducible refine (HP.out).mono ?_); rintro e w' ⟨rfl, rfl⟩))
  go_ret2
  exact ⟨rfl, rfl⟩
set_option maxHeartbeats 1000000 in
theorem bold_qb (t : ByteArray) (S i : Nat) (r : Int) (w : World) (c0 : w.cell? ⟨S, 0, none⟩ = some (.string t)) (c1 : w.cell? ⟨S, 1, none⟩ = some (.int .i64 r)) (hl : t.size ≤ 100000) (hi : i ≤ t.size) (kr : (r == 0) = false) (kq : (r == 2) = true) (k1 : (pk t i != 39) = false) (k2 : bLe (pk t (i + 1)) = false) :
    Calls Tryz.prog 49 #[.pointer (some ⟨S, 0, none⟩), .int .i64 (i : Int)] w fun e w' => e = .returned (.tuple #[.string ⟨#[]⟩, .int .i64 (i : Int)]) ∧ w = w' := by
  obtain ⟨p, hp⟩ : ∃ p, pk t i = p := ⟨_, rfl⟩
  have h1 := peek_any t S i w c0 hl (by omega)
  rw [hp] at h1 k1
  have HP := Lib.hid h1
  obtain ⟨q, hq⟩ : ∃ q, pk t (i + 1) = q := ⟨_, rfl⟩
  have h2 := peek_any t S (i + 1) w c0 hl (by omega)
  have hqb := pk_bd t (i + 1)
  rw [show ((i + 1 : Nat) : Int) = (i : Int) + 1 by omega, hq] at h2
  have HQ := Lib.hid h2
  rw [hq] at k2 hqb
  have h3 := fun w => by_le q w hqb.1 hqb.2
  rw [k2] at h3
  have H3 := Lib.hid h3
  clear h1 hp h2 hq h3 k2
  go_enter Tryz.func49, Tryz.ntmps49
  go_wp2_with (first | (go_at_call 38; (with_reducible refine (HP.out).mono ?_); rintro e w' ⟨rfl, rfl⟩) | (go_at_call 38; (with_reducible refine (HQ.out).mono ?_); rintro e w' ⟨rfl, rfl⟩) | (go_at_call 88; (with_reducible refine (H3.out _).mono ?_); rintro e w' ⟨rfl, rfl⟩))
  go_ret2
  exact ⟨rfl, rfl⟩
set_option maxHeartbeats 1000000 in
theorem bold_qc (t : ByteArray) (S i : Nat) (r : Int) (w : World) (c0 : w.cell? ⟨S, 0, none⟩ = some (.string t)) (c1 : w.cell? ⟨S, 1, none⟩ = some (.int .i64 r)) (hl : t.size ≤ 100000) (hi : i ≤ t.size) (kr : (r == 0) = false) (kq : (r == 2) = true) (k1 : (pk t i != 39) = false) (k2 : bLe (pk t (i + 1)) = true) (k : Nat) (hk : ru bLd bLd0 t (i + 1) = k) (k3 : (pk t k != 39) = true) :
    Calls Tryz.prog 49 #[.pointer (some ⟨S, 0, none⟩), .int .i64 (i : Int)] w fun e w' => e = .returned (.tuple #[.string ⟨#[]⟩, .int .i64 (i : Int)]) ∧ Below w.heap.size w w' := by
  have hS := cell_lt c0
  simp only at hS
  have hi2 : i + 1 ≤ t.size := by have := lt_of_yes (f := bLe) rfl k2; omega
  have h4 := endOf_ld t S (i + 1) w c0 hl (by omega)
  rw [show ((i + 1 : Nat) : Int) = (i : Int) + 1 by omega, hk] at h4
  have H4 := Lib.hid h4
  have hk1 : i + 1 ≤ k := by rw [← hk]; exact ru_ge _ _ _ _
  have hk2 : k ≤ t.size := by rw [← hk]; exact ru_le _ _ _ _ hi2
  have hup := fun w => Tryz.strings_ToUpper_ascii (t.extract (i + 1) k) w (by rw [ByteArray.size_extract]; omega) (by rw [← hk]; exact word_ascii t (i + 1) hi2)
  have HU := Lib.hid hup
  clear h4 hk hup
  obtain ⟨p, hp⟩ : ∃ p, pk t i = p := ⟨_, rfl⟩
  have h1 := peek_any t S i w c0 hl (by omega)
  rw [hp] at h1 k1
  have HP := Lib.hid h1
  obtain ⟨q, hq⟩ : ∃ q, pk t (i + 1) = q := ⟨_, rfl⟩
  have h2 := peek_any t S (i + 1) w c0 hl (by omega)
  have hqb := pk_bd t (i + 1)
  rw [show ((i + 1 : Nat) : Int) = (i : Int) + 1 by omega, hq] at h2
  have HQ := Lib.hid h2
  rw [hq] at k2 hqb
  have h3 := fun w => by_le q w hqb.1 hqb.2
  rw [k2] at h3
  have H3 := Lib.hid h3
  clear h1 hp h2 hq h3 k2
  obtain ⟨z, hz⟩ : ∃ z, pk t k = z := ⟨_, rfl⟩
  have HZ : Hid (∀ W, Below w.heap.size w W → Calls Tryz.prog 38 #[.pointer (some ⟨S, 0, none⟩), .int .i64 (k : Int)] W fun e w' => e = .returned (.int .u8 z) ∧ W = w') := Lib.hid (fun W hb => by rw [← hz]; exact peek_any t S k W ((hb.cell (p := ⟨S, 0, none⟩) hS).trans c0) hl (by omega))
  rw [hz] at k3
  clear hz
  go_enter Tryz.func49, Tryz.ntmps49
  go_wp2_with (first | (go_at_call 38; (with_reducible refine (HP.out).mono ?_); rintro e w' ⟨rfl, rfl⟩) | (go_at_call 38; (with_reducible refine (HQ.out).mono ?_); rintro e w' ⟨rfl, rfl⟩) | (go_at_call 88; (with_reducible refine (H3.out _).mono ?_); rintro e w' ⟨rfl, rfl⟩) | (go_at_call 86; (with_reducible refine (H4.out).mono ?_); rintro e w' ⟨rfl, rfl⟩) | (go_at_call 90; (with_reducible refine (HU.out _).mono ?_); rintro e w1 ⟨rfl, hb1⟩; obtain ⟨hc1, hf1⟩ := bcell hb1) | (go_at_call 38; (with_reducible refine (HZ.out _ (by assumption)).mono ?_); rintro e w' ⟨rfl, rfl⟩))
  go_ret2
  exact ⟨rfl, hb1⟩
set_option maxHeartbeats 1000000 in
theorem bold_qd (t : ByteArray) (S i : Nat) (r : Int) (w : World) (c0 : w.cell? ⟨S, 0, none⟩ = some (.string t)) (c1 : w.cell? ⟨S, 1, none⟩ = some (.int .i64 r)) (hl : t.size ≤ 100000) (hi : i ≤ t.size) (kr : (r == 0) = false) (kq : (r == 2) = true) (k1 : (pk t i != 39) = false) (k2 : bLe (pk t (i + 1)) = true) (k : Nat) (hk : ru bLd bLd0 t (i + 1) = k) (k3 : (pk t k != 39) = false) :
    Calls Tryz.prog 49 #[.pointer (some ⟨S, 0, none⟩), .int .i64 (i : Int)] w fun e w' => e = .returned (.tuple #[.string (upW t (i + 1) k), .int .i64 ((k : Int) + 1)]) ∧ Below w.heap.size w w' := by
  have hS := cell_lt c0
  simp only at hS
  have hi2 : i + 1 ≤ t.size := by have := lt_of_yes (f := bLe) rfl k2; omega
  have h4 := endOf_ld t S (i + 1) w c0 hl (by omega)
  rw [show ((i + 1 : Nat) : Int) = (i : Int) + 1 by omega, hk] at h4
  have H4 := Lib.hid h4
  have hk1 : i + 1 ≤ k := by rw [← hk]; exact ru_ge _ _ _ _
  have hk2 : k ≤ t.size := by rw [← hk]; exact ru_le _ _ _ _ hi2
  have hup := fun w => Tryz.strings_ToUpper_ascii (t.extract (i + 1) k) w (by rw [ByteArray.size_extract]; omega) (by rw [← hk]; exact word_ascii t (i + 1) hi2)
  have HU := Lib.hid hup
  clear h4 hk hup
  obtain ⟨p, hp⟩ : ∃ p, pk t i = p := ⟨_, rfl⟩
  have h1 := peek_any t S i w c0 hl (by omega)
  rw [hp] at h1 k1
  have HP := Lib.hid h1
  obtain ⟨q, hq⟩ : ∃ q, pk t (i + 1) = q := ⟨_, rfl⟩
  have h2 := peek_any t S (i + 1) w c0 hl (by omega)
  have hqb := pk_bd t (i + 1)
  rw [show ((i + 1 : Nat) : Int) = (i : Int) + 1 by omega, hq] at h2
  have HQ := Lib.hid h2
  rw [hq] at k2 hqb
  have h3 := fun w => by_le q w hqb.1 hqb.2
  rw [k2] at h3
  have H3 := Lib.hid h3
  clear h1 hp h2 hq h3 k2
  obtain ⟨z, hz⟩ : ∃ z, pk t k = z := ⟨_, rfl⟩
  have HZ : Hid (∀ W, Below w.heap.size w W → Calls Tryz.prog 38 #[.pointer (some ⟨S, 0, none⟩), .int .i64 (k : Int)] W fun e w' => e = .returned (.int .u8 z) ∧ W = w') := Lib.hid (fun W hb => by rw [← hz]; exact peek_any t S k W ((hb.cell (p := ⟨S, 0, none⟩) hS).trans c0) hl (by omega))
  rw [hz] at k3
  clear hz
  go_enter Tryz.func49, Tryz.ntmps49
  go_wp2_with (first | (go_at_call 38; (with_reducible refine (HP.out).mono ?_); rintro e w' ⟨rfl, rfl⟩) | (go_at_call 38; (with_reducible refine (HQ.out).mono ?_); rintro e w' ⟨rfl, rfl⟩) | (go_at_call 88; (with_reducible refine (H3.out _).mono ?_); rintro e w' ⟨rfl, rfl⟩) | (go_at_call 86; (with_reducible refine (H4.out).mono ?_); rintro e w' ⟨rfl, rfl⟩) | (go_at_call 90; (with_reducible refine (HU.out _).mono ?_); rintro e w1 ⟨rfl, hb1⟩; obtain ⟨hc1, hf1⟩ := bcell hb1) | (go_at_call 38; (with_reducible refine (HZ.out _ (by assumption)).mono ?_); rintro e w' ⟨rfl, rfl⟩))
  go_ret2
  exact ⟨rfl, hb1⟩
theorem bold_any (t : ByteArray) (S i : Nat) (r : Int) (w : World) (c0 : w.cell? ⟨S, 0, none⟩ = some (.string t)) (c1 : w.cell? ⟨S, 1, none⟩ = some (.int .i64 r)) (hl : t.size ≤ 100000) (hi : i ≤ t.size) :
    Calls Tryz.prog 49 #[.pointer (some ⟨S, 0, none⟩), .int .i64 (i : Int)] w fun e w' => e = .returned (.tuple #[.string (bdF r t i).1, .int .i64 ((bdF r t i).2 : Int)]) ∧ Below w.heap.size w w' := by
  have hw : ∀ {e : Ending} {w' : World} {v : Ending}, e = v ∧ w = w' → e = v ∧ Below w.heap.size w w' := fun ⟨h1, h2⟩ => ⟨h1, h2 ▸ Below.refl _ _⟩
  unfold bdF
  by_cases hr : r = 0
  · rw [if_pos hr]
    have kr : (r == 0) = true := by rw [hr]; rfl
    cases h : bCa (pk t i)
    · exact (bold_un t S i r w c0 c1 hl hi kr h).mono fun _ _ p => hw p
    · exact (bold_uy t S i r w c0 c1 hl hi kr h _ rfl).mono fun _ _ p => hw p
  · rw [if_neg hr]
    have kr : (r == 0) = false := by rw [beq_eq_false_iff_ne]; exact hr
    by_cases hq : r = 2
    · rw [if_pos hq]
      have kq : (r == 2) = true := by rw [hq]; rfl
      by_cases h1 : pk t i = 39
      · have k1 : (pk t i != 39) = false := by rw [h1]; rfl
        cases h2 : bLe (pk t (i + 1))
        · rw [if_neg (by simp)]
          exact (bold_qb t S i r w c0 c1 hl hi kr kq k1 h2).mono fun _ _ p => hw p
        · by_cases h3 : pk t (ru bLd bLd0 t (i + 1)) = 39
          · rw [if_pos ⟨h1, rfl, h3⟩]
            exact bold_qd t S i r w c0 c1 hl hi kr kq k1 h2 _ rfl (by rw [h3]; rfl)
          · rw [if_neg (fun h => h3 h.2.2)]
            exact bold_qc t S i r w c0 c1 hl hi kr kq k1 h2 _ rfl (by rw [bne_iff_ne]; exact h3)
      · rw [if_neg (fun h => h1 h.1)]
        exact (bold_qa t S i r w c0 c1 hl hi kr kq (by rw [bne_iff_ne]; exact h1)).mono fun _ _ p => hw p
    · rw [if_neg hq]
      have kq : (r == 2) = false := by rw [beq_eq_false_iff_ne]; exact hq
      by_cases h1 : pk t i = 46
      · have k1 : (pk t i != 46) = false := by rw [h1]; rfl
        cases h2 : bLe (pk t (i + 1))
        · rw [if_neg (by simp)]
          exact (bold_pb t S i r w c0 c1 hl hi kr kq k1 h2).mono fun _ _ p => hw p
        · rw [if_pos ⟨h1, rfl⟩]
          exact bold_pc t S i r w c0 c1 hl hi kr kq k1 h2 _ rfl
      · rw [if_neg (fun h => h1 h.1)]
        exact (bold_pa t S i r w c0 c1 hl hi kr kq (by rw [bne_iff_ne]; exact h1)).mono fun _ _ p => hw p
end Go.Proofs.YtbnldpcbdeeflaaGreatDoor
