/- The scanner's comment. Condition: the scanner's block holds the text, the regime, its place and its list. -/
import Derived.Test.YtbnldpcbdeeflaaGreatDoorFl
namespace Go.Proofs.YtbnldpcbdeeflaaGreatDoor
open Go.ChangeShapes Go.WideShapes Go.ChangeAt Go.RowKit

/-- The scanner's block. -/
def Sc (w : World) (S : Nat) (t : ByteArray) (r a : Int) (v : Value) : Prop := Own w S 44 [.string t, .int .i64 r, .int .i64 a, v]
theorem Sc.c0 {w : World} {S : Nat} {t : ByteArray} {r a : Int} {v : Value} (h : Sc w S t r a v) : w.cell? ⟨S, 0, none⟩ = some (.string t) := Own.cell h 0
theorem Sc.c1 {w : World} {S : Nat} {t : ByteArray} {r a : Int} {v : Value} (h : Sc w S t r a v) : w.cell? ⟨S, 1, none⟩ = some (.int .i64 r) := Own.cell h 1
theorem Sc.c2 {w : World} {S : Nat} {t : ByteArray} {r a : Int} {v : Value} (h : Sc w S t r a v) : w.cell? ⟨S, 2, none⟩ = some (.int .i64 a) := Own.cell h 2
theorem Sc.c3 {w : World} {S : Nat} {t : ByteArray} {r a : Int} {v : Value} (h : Sc w S t r a v) : w.cell? ⟨S, 3, none⟩ = some v := Own.cell h 3
theorem Sc.lt {w : World} {S : Nat} {t : ByteArray} {r a : Int} {v : Value} (h : Sc w S t r a v) : S < w.heap.size := Own.lt h

/-- Where a comment ends: behind the next #, or what is wrong: where, and the code. -/
def cmE (t : ByteArray) (a : Int) (i : Nat) : Int × Int × Int :=
  if i < t.size then (if bTx (pk t i) = true then (if pk t i = 35 then ((i : Int) + 1, 0, 0) else cmE t a (i + 1)) else (a, (i : Int), 2)) else (a, a, 16)
termination_by t.size - i
theorem cm_next {t : ByteArray} {a : Int} {i : Nat} (h : i < t.size) (k : bTx (pk t i) = true) (n : pk t i ≠ 35) : cmE t a i = cmE t a (i + 1) := by rw [cmE, if_pos h, if_pos k, if_neg n]
theorem cm_end {t : ByteArray} {a : Int} {i : Nat} (h : i < t.size) (k : bTx (pk t i) = true) (n : pk t i = 35) : cmE t a i = ((i : Int) + 1, 0, 0) := by rw [cmE, if_pos h, if_pos k, if_pos n]
theorem cm_bad {t : ByteArray} {a : Int} {i : Nat} (h : i < t.size) (k : bTx (pk t i) = false) : cmE t a i = (a, (i : Int), 2) := by rw [cmE, if_pos h, if_neg (by rw [k]; decide)]
theorem cm_out {t : ByteArray} {a : Int} {i : Nat} (h : t.size ≤ i) : cmE t a i = (a, a, 16) := by rw [cmE, if_neg (by omega)]

/-- What a step of the scanner leaves: its block with a place, and all other blocks as they were. -/
def CmPost (S : Nat) (t : ByteArray) (r : Int) (v : Value) (w : World) (R : Int × Int × Int) (x : Ending) (w' : World) : Prop :=
  x = .returned (.agg #[.int .i64 R.2.1, .int .i64 R.2.2]) ∧ Sc w' S t r R.1 v ∧ Gb S w w'
theorem CmPost.mk {S : Nat} {t : ByteArray} {r : Int} {v : Value} {w w' : World} {R : Int × Int × Int} {a p c : Int} {x : Ending} (hR : R = (a, p, c)) (hx : x = .returned (.agg #[.int .i64 p, .int .i64 c])) (h : Sc w' S t r a v) (hb : Gb S w w') : CmPost S t r v w R x w' := by
  subst hR
  exact ⟨hx, h, hb⟩

set_option maxHeartbeats 2000000 in
theorem comment_any (S j : Nat) (t : ByteArray) (r : Int) (v : Value) (w : World) (hS : Sc w S t r (j : Int) v) (hl : t.size ≤ 100000) (hj : j < t.size) :
    Calls Tryz.prog 39 #[.pointer (some ⟨S, 0, none⟩)] w (CmPost S t r v w (cmE t (j : Int) (j + 1))) := by
  have c0 := hS.c0
  have c2 := hS.c2
  have hSl := hS.lt
  have HS := Lib.hid hS
  have HF := Lib.hid (fun e W hb => fault_at c2 e W hb)
  have fS := fun i => Own.frozen hS i
  clear hS
  go_enter Tryz.func39, Tryz.ntmps39
  go_wp2
  go_loop [3] (fun q => ∃ k : Nat, j + 1 ≤ k ∧ k ≤ t.size ∧ cmE t (j : Int) k = cmE t (j : Int) (j + 1) ∧ q = .int .i64 k) (fun q => t.size - (intOf q).toNat)
  case atStart => exact ⟨j + 1, Nat.le_refl _, hj, rfl, by go_num⟩
  case round =>
    obtain ⟨k, hk, hk2, hs, rfl⟩ := hrel
    have HC := Lib.hid hs
    clear hs
    by_cases hlt : k < t.size
    · have hp := pk_bd t k
      have hpi := (pk_in hlt).symm
      obtain ⟨p, hpe⟩ : ∃ p, pk t k = p := ⟨_, rfl⟩
      have HE := Lib.hid hpe
      rw [hpe] at hp hpi
      have HT := Lib.hid (fun w => by_tx p w hp.1 hp.2)
      clear hpe
      cases k1 : bTx p
      · have HR := Lib.hid (HC.out.symm.trans (cm_bad hlt (by rw [HE.out]; exact k1)))
        rw [k1] at HT
        clear k1
        go_wp2_with (first | (go_at_call 77; (with_reducible refine (HT.out _).mono ?_); rintro e w' ⟨rfl, rfl⟩))
        have hF := Own.new w 26 [.int .i64 (k : Int), .int .i64 2]
        refine bodyPost_ret (ret_own rfl hF rfl Tryz.underlying26 rfl (by kernel_rfl)) rfl ?_
        exact CmPost.mk HR.out rfl (Own.alloc HS.out _) (by repeat' (first | (with_reducible assumption) | (with_reducible exact Gb.refl _ _) | (with_reducible refine Gb.alloc ?_ _) | (with_reducible refine Gb.set ?_ ?_ _) | (with_reducible refine Gb.drew ?_) | (with_reducible refine Gb.call ?_ (by assumption)) | (with_reducible exact Or.inl rfl) | (with_reducible exact Or.inr (Nat.le_refl _)) | omega | (simp; done) | (simp; omega)))
      · rw [k1] at HT
        by_cases n : p = 35
        · have HR := Lib.hid (HC.out.symm.trans (cm_end hlt (by rw [HE.out]; exact k1) (by rw [HE.out]; exact n)))
          clear k1
          subst n
          go_wp2_with (first | (go_at_call 77; (with_reducible refine (HT.out _).mono ?_); rintro e w' ⟨rfl, rfl⟩))
          have hF := Own.new' (w := w.setCell ⟨S, 2, none⟩ (.int .i64 ((k : Int) + 1))) (g := w.heap.size) (by simp) (t := 26) (l := [.int .i64 0, .int .i64 0])
          refine bodyPost_ret (ret_own rfl hF rfl Tryz.underlying26 rfl (by kernel_rfl)) rfl ?_
          exact CmPost.mk HR.out rfl ((Own.put HS.out 2 (.int .i64 ((k : Int) + 1))).alloc _) (by repeat' (first | (with_reducible assumption) | (with_reducible exact Gb.refl _ _) | (with_reducible refine Gb.alloc ?_ _) | (with_reducible refine Gb.set ?_ ?_ _) | (with_reducible refine Gb.drew ?_) | (with_reducible refine Gb.call ?_ (by assumption)) | (with_reducible exact Or.inl rfl) | (with_reducible exact Or.inr (Nat.le_refl _)) | omega | (simp; done) | (simp; omega)))
        · have HR := Lib.hid (HC.out.symm.trans (cm_next hlt (by rw [HE.out]; exact k1) (by rw [HE.out]; exact n)))
          clear k1
          go_wp2_with (first | (go_at_call 77; (with_reducible refine (HT.out _).mono ?_); rintro e w' ⟨rfl, rfl⟩))
          go_round
          case rel => exact ⟨k + 1, by omega, by omega, HR.out.symm, by go_num⟩
          case measure => simp [intOf]; omega
    · have HR := Lib.hid (HC.out.symm.trans (cm_out (by omega)))
      go_wp2_with (first | (go_at_call 78; (with_reducible refine (HF.out 16 _ (by repeat' (first | (with_reducible assumption) | (with_reducible exact Below.refl _ _) | (with_reducible refine Below.alloc ?_ ?_ _) | (with_reducible refine Below.setCell ?_ ?_ _) | (with_reducible refine Below.drew ?_) | (with_reducible refine Below.call ?_ ?_ (by assumption)) | (with_reducible exact Nat.le_refl _) | omega | (simp; done) | (simp; omega)))).mono ?_); rintro e w1 ⟨rfl, hb1⟩; obtain ⟨hc1, hf1⟩ := bcell hb1; have hz1 := hb1.size; (try simp only [World.size_alloc] at hz1); (try simp only [sz_drew] at hz1)))
      have hF := (((Own.new w 26 [.int .i64 0, .int .i64 0]).kept hb1).put 0 (.int .i64 (j : Int))).put 1 (.int .i64 16)
      refine bodyPost_ret (ret_own rfl hF rfl Tryz.underlying26 rfl (by kernel_rfl)) rfl ?_
      exact CmPost.mk HR.out rfl (((((Own.alloc HS.out _).kept hb1).far (by simp; omega) _).far (by simp; omega) _)) (by repeat' (first | (with_reducible assumption) | (with_reducible exact Gb.refl _ _) | (with_reducible refine Gb.alloc ?_ _) | (with_reducible refine Gb.set ?_ ?_ _) | (with_reducible refine Gb.drew ?_) | (with_reducible refine Gb.call ?_ (by assumption)) | (with_reducible exact Or.inl rfl) | (with_reducible exact Or.inr (Nat.le_refl _)) | omega | (simp; done) | (simp; omega)))
end Go.Proofs.YtbnldpcbdeeflaaGreatDoor
