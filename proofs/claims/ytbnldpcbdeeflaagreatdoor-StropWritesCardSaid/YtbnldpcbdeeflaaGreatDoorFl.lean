/- The scanner's faults: what is wrong here, and what is wrong in a string. Condition: the scanner's cells hold the text and its place. -/
import Derived.Test.YtbnldpcbdeeflaaGreatDoorMm
namespace Go.Proofs.YtbnldpcbdeeflaaGreatDoor
open Go.ChangeShapes Go.WideShapes Go.ChangeAt Go.RowKit

theorem faultHere_any (S : Nat) (a e : Int) (w : World) (c2 : w.cell? ⟨S, 2, none⟩ = some (.int .i64 a)) :
    Calls Tryz.prog 78 #[.pointer (some ⟨S, 0, none⟩), .int .i64 e] w fun x w' => x = .returned (.agg #[.int .i64 a, .int .i64 e]) ∧ Below w.heap.size w w' := by
  have hl := cell_lt c2
  simp only at hl
  go_enter Tryz.func78, Tryz.ntmps78
  go_wp2
  have hF := Own.new w 26 [.int .i64 a, .int .i64 e]
  refine bodyPost_ret (ret_own rfl hF rfl Tryz.underlying26 rfl (by kernel_rfl)) rfl ?_
  exact ⟨rfl, (by repeat' (first | (with_reducible assumption) | (with_reducible exact Below.refl _ _) | (with_reducible refine Below.alloc ?_ ?_ _) | (with_reducible refine Below.setCell ?_ ?_ _) | (with_reducible refine Below.drew ?_) | (with_reducible refine Below.call ?_ ?_ (by assumption)) | (with_reducible exact Nat.le_refl _) | omega | (simp; done) | (simp; omega)))⟩
theorem fault_at {S : Nat} {a : Int} {w : World} (c2 : w.cell? ⟨S, 2, none⟩ = some (.int .i64 a)) (e : Int) (W : World) (hb : Below w.heap.size w W) :
    Calls Tryz.prog 78 #[.pointer (some ⟨S, 0, none⟩), .int .i64 e] W fun x w' => x = .returned (.agg #[.int .i64 a, .int .i64 e]) ∧ Below W.heap.size W w' :=
  faultHere_any S a e W ((hb.cell (p := ⟨S, 2, none⟩) (cell_lt c2)).trans c2)
set_option maxHeartbeats 1000000 in
theorem lit_end (t : ByteArray) (S i : Nat) (a : Int) (w : World) (c0 : w.cell? ⟨S, 0, none⟩ = some (.string t)) (c2 : w.cell? ⟨S, 2, none⟩ = some (.int .i64 a)) (hl : t.size ≤ 100000) (hi : i = t.size) :
    Calls Tryz.prog 79 #[.pointer (some ⟨S, 0, none⟩), .int .i64 (i : Int)] w fun x w' => x = .returned (.agg #[.int .i64 a, .int .i64 16]) ∧ Below w.heap.size w w' := by
  have hS := cell_lt c0
  simp only at hS
  have HF := Lib.hid (fun e W hb => fault_at c2 e W hb)
  subst hi
  go_enter Tryz.func79, Tryz.ntmps79
  go_wp2_with (first | (go_at_call 78; (with_reducible refine (HF.out 16 _ (by repeat' (first | (with_reducible assumption) | (with_reducible exact Below.refl _ _) | (with_reducible refine Below.alloc ?_ ?_ _) | (with_reducible refine Below.setCell ?_ ?_ _) | (with_reducible refine Below.drew ?_) | (with_reducible refine Below.call ?_ ?_ (by assumption)) | (with_reducible exact Nat.le_refl _) | omega | (simp; done) | (simp; omega)))).mono ?_); rintro e w1 ⟨rfl, hb1⟩; obtain ⟨hc1, hf1⟩ := bcell hb1; have hz1 := hb1.size; (try simp only [World.size_alloc] at hz1); (try simp only [sz_drew] at hz1)))
  have hF := (((Own.new w 26 [.int .i64 0, .int .i64 0]).kept hb1).put 0 (.int .i64 a)).put 1 (.int .i64 16)
  refine bodyPost_ret (ret_own rfl hF rfl Tryz.underlying26 rfl (by kernel_rfl)) rfl ?_
  exact ⟨rfl, (by repeat' (first | (with_reducible assumption) | (with_reducible exact Below.refl _ _) | (with_reducible refine Below.alloc ?_ ?_ _) | (with_reducible refine Below.setCell ?_ ?_ _) | (with_reducible refine Below.drew ?_) | (with_reducible refine Below.call ?_ ?_ (by assumption)) | (with_reducible exact Nat.le_refl _) | omega | (simp; done) | (simp; omega)))⟩
set_option maxHeartbeats 1000000 in
theorem lit_form (t : ByteArray) (S i : Nat) (a : Int) (w : World) (c0 : w.cell? ⟨S, 0, none⟩ = some (.string t)) (c2 : w.cell? ⟨S, 2, none⟩ = some (.int .i64 a)) (hl : t.size ≤ 100000) (hi : i < t.size) (k1 : bTx (pk t i) = false) :
    Calls Tryz.prog 79 #[.pointer (some ⟨S, 0, none⟩), .int .i64 (i : Int)] w fun x w' => x = .returned (.agg #[.int .i64 (i : Int), .int .i64 2]) ∧ Below w.heap.size w w' := by
  have hS := cell_lt c0
  simp only at hS
  have HF := Lib.hid (fun e W hb => fault_at c2 e W hb)
  have hp := pk_bd t i
  have hpi := pk_in hi
  obtain ⟨p, hpe⟩ : ∃ p, pk t i = p := ⟨_, rfl⟩
  rw [hpe] at hp hpi k1
  have H1 := Lib.hid (fun w => by_tx p w hp.1 hp.2)
  have H2 := Lib.hid (fun w => by_pr p w hp.1 hp.2)
  rw [k1] at H1
  have hne : (i == t.size) = false := by rw [beq_eq_false_iff_ne]; omega
  have hne2 : decide ((i : Int) = (t.size : Int)) = false := decide_eq_false (by omega)
  have hpe2 := hpi.symm
  clear hpi hpe k1
  go_enter Tryz.func79, Tryz.ntmps79
  go_wp2_with (first | (go_at_call 77; (with_reducible refine (H1.out _).mono ?_); rintro e w' ⟨rfl, rfl⟩) | (go_at_call 110; (with_reducible refine (H2.out _).mono ?_); rintro e w' ⟨rfl, rfl⟩))
  have hF := Own.new w 26 [.int .i64 (i : Int), .int .i64 2]
  refine bodyPost_ret (ret_own rfl hF rfl Tryz.underlying26 rfl (by kernel_rfl)) rfl ?_
  exact ⟨rfl, (by repeat' (first | (with_reducible assumption) | (with_reducible exact Below.refl _ _) | (with_reducible refine Below.alloc ?_ ?_ _) | (with_reducible refine Below.setCell ?_ ?_ _) | (with_reducible refine Below.drew ?_) | (with_reducible refine Below.call ?_ ?_ (by assumption)) | (with_reducible exact Nat.le_refl _) | omega | (simp; done) | (simp; omega)))⟩
set_option maxHeartbeats 1000000 in
theorem lit_syn (t : ByteArray) (S i : Nat) (a : Int) (w : World) (c0 : w.cell? ⟨S, 0, none⟩ = some (.string t)) (c2 : w.cell? ⟨S, 2, none⟩ = some (.int .i64 a)) (hl : t.size ≤ 100000) (hi : i < t.size) (k1 : bTx (pk t i) = true) (k2 : bPr (pk t i) = false) :
    Calls Tryz.prog 79 #[.pointer (some ⟨S, 0, none⟩), .int .i64 (i : Int)] w fun x w' => x = .returned (.agg #[.int .i64 (i : Int), .int .i64 9]) ∧ Below w.heap.size w w' := by
  have hS := cell_lt c0
  simp only at hS
  have HF := Lib.hid (fun e W hb => fault_at c2 e W hb)
  have hp := pk_bd t i
  have hpi := pk_in hi
  obtain ⟨p, hpe⟩ : ∃ p, pk t i = p := ⟨_, rfl⟩
  rw [hpe] at hp hpi k1 k2
  have H1 := Lib.hid (fun w => by_tx p w hp.1 hp.2)
  have H2 := Lib.hid (fun w => by_pr p w hp.1 hp.2)
  rw [k1] at H1
  rw [k2] at H2
  have hne : (i == t.size) = false := by rw [beq_eq_false_iff_ne]; omega
  have hne2 : decide ((i : Int) = (t.size : Int)) = false := decide_eq_false (by omega)
  have hpe2 := hpi.symm
  clear hpi hpe k1 k2
  go_enter Tryz.func79, Tryz.ntmps79
  go_wp2_with (first | (go_at_call 77; (with_reducible refine (H1.out _).mono ?_); rintro e w' ⟨rfl, rfl⟩) | (go_at_call 110; (with_reducible refine (H2.out _).mono ?_); rintro e w' ⟨rfl, rfl⟩))
  have hF := Own.new w 26 [.int .i64 (i : Int), .int .i64 9]
  refine bodyPost_ret (ret_own rfl hF rfl Tryz.underlying26 rfl (by kernel_rfl)) rfl ?_
  exact ⟨rfl, (by repeat' (first | (with_reducible assumption) | (with_reducible exact Below.refl _ _) | (with_reducible refine Below.alloc ?_ ?_ _) | (with_reducible refine Below.setCell ?_ ?_ _) | (with_reducible refine Below.drew ?_) | (with_reducible refine Below.call ?_ ?_ (by assumption)) | (with_reducible exact Nat.le_refl _) | omega | (simp; done) | (simp; omega)))⟩
set_option maxHeartbeats 1000000 in
theorem lit_ok (t : ByteArray) (S i : Nat) (a : Int) (w : World) (c0 : w.cell? ⟨S, 0, none⟩ = some (.string t)) (c2 : w.cell? ⟨S, 2, none⟩ = some (.int .i64 a)) (hl : t.size ≤ 100000) (hi : i < t.size) (k1 : bTx (pk t i) = true) (k2 : bPr (pk t i) = true) :
    Calls Tryz.prog 79 #[.pointer (some ⟨S, 0, none⟩), .int .i64 (i : Int)] w fun x w' => x = .returned (.agg #[.int .i64 0, .int .i64 0]) ∧ Below w.heap.size w w' := by
  have hS := cell_lt c0
  simp only at hS
  have HF := Lib.hid (fun e W hb => fault_at c2 e W hb)
  have hp := pk_bd t i
  have hpi := pk_in hi
  obtain ⟨p, hpe⟩ : ∃ p, pk t i = p := ⟨_, rfl⟩
  rw [hpe] at hp hpi k1 k2
  have H1 := Lib.hid (fun w => by_tx p w hp.1 hp.2)
  have H2 := Lib.hid (fun w => by_pr p w hp.1 hp.2)
  rw [k1] at H1
  rw [k2] at H2
  have hne : (i == t.size) = false := by rw [beq_eq_false_iff_ne]; omega
  have hne2 : decide ((i : Int) = (t.size : Int)) = false := decide_eq_false (by omega)
  have hpe2 := hpi.symm
  clear hpi hpe k1 k2
  go_enter Tryz.func79, Tryz.ntmps79
  go_wp2_with (first | (go_at_call 77; (with_reducible refine (H1.out _).mono ?_); rintro e w' ⟨rfl, rfl⟩) | (go_at_call 110; (with_reducible refine (H2.out _).mono ?_); rintro e w' ⟨rfl, rfl⟩))
  have hF := Own.new w 26 [.int .i64 0, .int .i64 0]
  refine bodyPost_ret (ret_own rfl hF rfl Tryz.underlying26 rfl (by kernel_rfl)) rfl ?_
  exact ⟨rfl, (by repeat' (first | (with_reducible assumption) | (with_reducible exact Below.refl _ _) | (with_reducible refine Below.alloc ?_ ?_ _) | (with_reducible refine Below.setCell ?_ ?_ _) | (with_reducible refine Below.drew ?_) | (with_reducible refine Below.call ?_ ?_ (by assumption)) | (with_reducible exact Nat.le_refl _) | omega | (simp; done) | (simp; omega)))⟩
/-- What is wrong at a place of a string or format: where, and the code. -/
def litF (t : ByteArray) (i : Nat) (a : Int) : Int × Int := if i < t.size then (if bTx (pk t i) = true then (if bPr (pk t i) = true then (0, 0) else ((i : Int), 9)) else ((i : Int), 2)) else (a, 16)
theorem literal_any (t : ByteArray) (S i : Nat) (a : Int) (w : World) (c0 : w.cell? ⟨S, 0, none⟩ = some (.string t)) (c2 : w.cell? ⟨S, 2, none⟩ = some (.int .i64 a)) (hl : t.size ≤ 100000) (hi : i ≤ t.size) :
    Calls Tryz.prog 79 #[.pointer (some ⟨S, 0, none⟩), .int .i64 (i : Int)] w fun x w' => x = .returned (.agg #[.int .i64 (litF t i a).1, .int .i64 (litF t i a).2]) ∧ Below w.heap.size w w' := by
  unfold litF
  by_cases h : i < t.size
  · rw [if_pos h]
    cases k1 : bTx (pk t i)
    · exact lit_form t S i a w c0 c2 hl h k1
    · cases k2 : bPr (pk t i)
      · exact lit_syn t S i a w c0 c2 hl h k1 k2
      · exact lit_ok t S i a w c0 c2 hl h k1 k2
  · rw [if_neg h]
    exact lit_end t S i a w c0 c2 hl (by omega)
end Go.Proofs.YtbnldpcbdeeflaaGreatDoor
