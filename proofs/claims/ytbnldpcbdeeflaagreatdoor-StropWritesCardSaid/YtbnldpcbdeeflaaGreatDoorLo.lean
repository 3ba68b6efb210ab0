/- The scanner's exponents put together; the letters and digits of a text. Condition: the scanner's cells hold the text and the regime. -/
import Derived.Test.YtbnldpcbdeeflaaGreatDoorNu
namespace Go.Proofs.YtbnldpcbdeeflaaGreatDoor
open Go.ChangeShapes Go.WideShapes Go.ChangeAt Go.RowKit

theorem exp_any (t : ByteArray) (S a : Nat) (r : Int) (w : World) (c0 : w.cell? ⟨S, 0, none⟩ = some (.string t)) (c1 : w.cell? ⟨S, 1, none⟩ = some (.int .i64 r)) (hl : t.size ≤ 100000) (ha : a ≤ t.size) :
    Calls Tryz.prog 112 #[.pointer (some ⟨S, 0, none⟩), .int .i64 (a : Int)] w fun e w' => e = .returned (.tuple #[.string (exF r t a).1, .int .i64 ((exF r t a).2 : Int)]) ∧ Below w.heap.size w w' := by
  unfold exF
  by_cases h : ch r t (sk t a) = 101
  · rw [if_pos h]
    by_cases hs : pk t (sk t (sk t a + 1)) = 43 ∨ pk t (sk t (sk t a + 1)) = 45
    · rw [if_pos hs]
      unfold exS
      by_cases hq : (rnF bDi bDi0 r t (sk t (sk t a + 1) + 1)).1 = []
      · rw [if_pos hq]
        exact exp_se t S a _ _ r _ w c0 c1 hl ha rfl rfl h hs rfl hq
      · rw [if_neg hq]
        exact exp_sn t S a _ _ r _ w c0 c1 hl ha rfl rfl h hs rfl hq
    · rw [if_neg hs]
      unfold exS
      by_cases hq : (rnF bDi bDi0 r t (sk t (sk t a + 1))).1 = []
      · rw [if_pos hq]
        exact exp_ue t S a _ _ r _ w c0 c1 hl ha rfl rfl h hs rfl hq
      · rw [if_neg hq]
        exact exp_un t S a _ _ r _ w c0 c1 hl ha rfl rfl h hs rfl hq
  · rw [if_neg h]
    exact (exp_no t S a r _ w c0 c1 hl ha rfl (by rw [bne_iff_ne]; exact h)).mono fun e w' ⟨h1, h2⟩ => ⟨h1, h2 ▸ Below.refl _ _⟩
/-- How many small letters and digits a text has from a place on. -/
def lc (t : ByteArray) (i : Nat) : Nat := if i < t.size then (if bSd (pk t i) = true then 1 else 0) + lc t (i + 1) else 0
termination_by t.size - i
theorem lc_yes {t : ByteArray} {i : Nat} (h : i < t.size) (k : bSd (pk t i) = true) : lc t i = 1 + lc t (i + 1) := by rw [lc, if_pos h, if_pos k]
theorem lc_no {t : ByteArray} {i : Nat} (h : i < t.size) (k : bSd (pk t i) = false) : lc t i = lc t (i + 1) := by rw [lc, if_pos h, if_neg (by rw [k]; decide), Nat.zero_add]
theorem lc_out {t : ByteArray} {i : Nat} (h : t.size ≤ i) : lc t i = 0 := by rw [lc, if_neg (by omega)]
set_option maxHeartbeats 1000000 in
theorem letters_any (t : ByteArray) (w : World) (hl : t.size ≤ 1000000) : Calls Tryz.prog 82 #[.string t] w fun e w' => e = .returned (.int .i64 (lc t 0 : Int)) ∧ w = w' := by
  have HL := Lib.hid hl
  go_enter Tryz.func82, Tryz.ntmps82
  go_wp2
  go_loop [3, 7] (fun v3 v7 => ∃ i n : Nat, i ≤ t.size ∧ n ≤ i ∧ n + lc t i = lc t 0 ∧ v3 = .int .i64 n ∧ v7 = .int .i64 i) (fun _ v7 => t.size - (intOf v7).toNat)
  case atStart => exact ⟨0, 0, Nat.zero_le _, Nat.le_refl _, Nat.zero_add _, rfl, rfl⟩
  case round =>
    obtain ⟨i, n, h1, h2, h3, rfl, rfl⟩ := hrel
    have H3 := Lib.hid h3
    clear h3
    rcases Nat.lt_or_ge i t.size with hi | hi
    · have hp := pk_bd t i
      have hpi := (pk_in hi).symm
      obtain ⟨p, hpe⟩ : ∃ p, pk t i = p := ⟨_, rfl⟩
      have HE := Lib.hid hpe
      rw [hpe] at hp hpi
      have HB := Lib.hid (fun w => by_sd p w hp.1 hp.2)
      have HI := Lib.hid hi
      have hiz : decide ((i : Int) < (t.size : Int)) = true := decide_eq_true (by omega)
      clear hpe
      cases hb : bSd p
      · rw [hb] at HB
        have HN := Lib.hid (show n + lc t (i + 1) = lc t 0 by rw [← H3.out, lc_no HI.out (by rw [HE.out]; exact hb)])
        clear hb
        go_wp2_with ((go_at_call 47; (with_reducible refine (HB.out _).mono ?_); rintro e w' ⟨rfl, rfl⟩))
        go_round
        case rel => exact ⟨i + 1, n, by omega, by omega, HN.out, rfl, by go_num⟩
        case measure => have := HI.out; simp [intOf]; omega
      · rw [hb] at HB
        have HN := Lib.hid (show n + 1 + lc t (i + 1) = lc t 0 by rw [← H3.out, lc_yes HI.out (by rw [HE.out]; exact hb)]; omega)
        clear hb
        go_wp2_with ((go_at_call 47; (with_reducible refine (HB.out _).mono ?_); rintro e w' ⟨rfl, rfl⟩))
        go_round
        case rel => exact ⟨i + 1, n + 1, by omega, by omega, HN.out, by go_num, by go_num⟩
        case measure => have := HI.out; simp [intOf]; omega
    · have HN := Lib.hid (show lc t 0 = n by rw [← H3.out, lc_out hi, Nat.add_zero])
      have hiz : decide ((i : Int) < (t.size : Int)) = false := decide_eq_false (by omega)
      go_wp2
      go_returns
      rw [HN.out]
      exact ⟨rfl, rfl⟩
end Go.Proofs.YtbnldpcbdeeflaaGreatDoor
