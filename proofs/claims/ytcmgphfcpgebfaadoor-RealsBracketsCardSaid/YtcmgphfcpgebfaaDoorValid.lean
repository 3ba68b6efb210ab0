/- The program's tests of sizes, directions and reals. Condition: the tables hold what their initialisers lay. -/
import Derived.Test.YtcmgphfcpgebfaaDoorRoundM
namespace Go.Proofs.YtcmgphfcpgebfaaDoor
open Go.ChangeShapes Go.WideShapes Go.ChangeAt Go.RowKit
attribute [local go_sem ↓] Go.wp_at_zero Go.wp_at_succ

def isSz (s : Int) : Bool := decide (s = -1 ∨ s = 0 ∨ s = 1)
def isDir (how : Int) : Bool := decide (0 ≤ how ∧ how ≤ 3)
def dz (s : Int) : Int := if isSz s = true then (pr s : Int) else 0
def sx (s : Int) : Int := if isSz s = true then 0 else 1
/-- The form of a real of a size. -/
def vld (s m e : Int) : Bool :=
  isSz s && (if m = 0 then decide (e = 0) else decide (m % 10 ≠ 0 ∧ dg (mag m) ≤ pr s ∧ -400 ≤ e ∧ e ≤ 400 + (pr s : Int) - (dg (mag m) : Int)))
theorem sz_or (s : Int) : (isSz s = true ∧ (s = -1 ∨ s = 0 ∨ s = 1)) ∨ (isSz s = false ∧ (s < -1 ∨ 1 < s)) := by
  rcases (by omega : (s = -1 ∨ s = 0 ∨ s = 1) ∨ (s < -1 ∨ 1 < s)) with h | h
  · exact Or.inl ⟨decide_eq_true h, h⟩
  · exact Or.inr ⟨decide_eq_false (by omega), h⟩

theorem Digits_any (s : Int) (w : World) (ht : Tab w) : Calls Tryd.prog 12 #[.int .i64 s] w fun e w' => e = .returned (.tuple #[.int .i64 (dz s), .int .i64 (sx s)]) ∧ w = w' := by
  have hlt := ht.lt
  have hlt0 := ht.lt0
  unfold dz sx
  rcases sz_or s with ⟨h, h1⟩ | ⟨h, h1⟩
  · rw [h]
    simp only [if_true]
    have p0 := ht.p0
    have p1 := ht.p1
    have p2 := ht.p2
    rcases h1 with rfl | rfl | rfl
    · rw [show (pr (-1) : Int) = 7 by decide]
      go_enter Tryd.func12, Tryd.ntmps12
      go_wp2
      go_returns
      exact ⟨rfl, rfl⟩
    · rw [show (pr 0 : Int) = 15 by decide]
      go_enter Tryd.func12, Tryd.ntmps12
      go_wp2
      go_returns
      exact ⟨rfl, rfl⟩
    · rw [show (pr 1 : Int) = 18 by decide]
      go_enter Tryd.func12, Tryd.ntmps12
      go_wp2
      go_returns
      exact ⟨rfl, rfl⟩
  · rw [h]
    simp only [Bool.false_eq_true, if_false]
    rcases h1 with h1 | h1
    · go_enter Tryd.func12, Tryd.ntmps12
      go_wp2
      go_returns
      exact ⟨rfl, rfl⟩
    · have h2 : ¬ s < -1 := by omega
      go_enter Tryd.func12, Tryd.ntmps12
      go_wp2
      go_returns
      exact ⟨rfl, rfl⟩
theorem isDirection_any (how : Int) (w : World) : Calls Tryd.prog 77 #[.int .i64 how] w fun e w' => e = .returned (.bool (isDir how)) ∧ w = w' := by
  rcases (by omega : how < 0 ∨ (0 ≤ how ∧ how ≤ 3) ∨ 3 < how) with h | ⟨h, h'⟩ | h
  · have e : isDir how = false := decide_eq_false (by omega)
    rw [e]
    have h2 : ¬ 0 ≤ how := by omega
    go_enter Tryd.func77, Tryd.ntmps77
    go_wp2
    go_returns
    exact ⟨rfl, rfl⟩
  · have e : isDir how = true := decide_eq_true (by omega)
    rw [e]
    go_enter Tryd.func77, Tryd.ntmps77
    go_wp2
    go_returns
    exact ⟨rfl, rfl⟩
  · have e : isDir how = false := decide_eq_false (by omega)
    rw [e]
    have h2 : ¬ how ≤ 3 := by omega
    have h3 : 0 ≤ how := by omega
    go_enter Tryd.func77, Tryd.ntmps77
    go_wp2
    go_returns
    exact ⟨rfl, rfl⟩

theorem tmod10 (m : Int) : (Int.tmod m 10 != 0) = decide (m % 10 ≠ 0) := by
  have h : m.tmod 10 = 0 ↔ m % 10 = 0 := ⟨fun h => Int.emod_eq_zero_of_dvd (Int.dvd_of_tmod_eq_zero h), fun h => Int.tmod_eq_zero_of_dvd (Int.dvd_of_emod_eq_zero h)⟩
  rw [Bool.eq_iff_iff]
  simp [h]

set_option maxHeartbeats 2000000 in
theorem Valid_any (s m e : Int) (w : World) (ht : Tab w) (lo : -9223372036854775808 ≤ m) (hi : m ≤ 9223372036854775807) :
    Calls Tryd.prog 14 #[.int .i64 s, .agg #[.int .i64 m, .int .i64 e]] w fun x w' => x = .returned (.bool (vld s m e)) ∧ Kept w w' := by
  have hlt := ht.lt
  have hlt0 := ht.lt0
  have hD := fun w ht => Digits_any s w ht
  unfold dz sx at hD
  unfold vld
  rcases sz_or s with ⟨h, h1⟩ | ⟨h, h1⟩
  · rw [h] at hD ⊢
    simp only [if_true] at hD
    obtain ⟨hp7, hp18⟩ := pr_pos s
    have hdg : dg (mag m) ≤ 19 := (dg_iff _ 19).2 (by unfold mag; simp; omega)
    have hmg : mag m < 18446744073709551616 := by unfold mag; omega
    have hdi := fun w ht => digitsOf_any (mag m) w ht hmg
    rw [Bool.true_and]
    have e0 : decide (m % 10 ≠ 0 ∧ dg (mag m) ≤ pr s ∧ -400 ≤ e ∧ e ≤ 400 + (pr s : Int) - (dg (mag m) : Int)) = decide (m % 10 ≠ 0 ∧ (dg (mag m) : Int) ≤ (pr s : Int) ∧ -400 ≤ e ∧ e ≤ 400 + (pr s : Int) - (dg (mag m) : Int)) := by
      congr 1; simp
    rw [e0]
    obtain ⟨P, hP⟩ : ∃ P : Int, P = (pr s : Int) := ⟨_, rfl⟩
    obtain ⟨D, hDg⟩ : ∃ D : Int, D = (dg (mag m) : Int) := ⟨_, rfl⟩
    rw [← hP] at hD ⊢
    rw [← hDg] at hdi ⊢
    have hP1 : 7 ≤ P := by omega
    have hP2 : P ≤ 18 := by omega
    have hD1 : 0 ≤ D := by omega
    have hD2 : D ≤ 19 := by omega
    have HD := Lib.hid hD
    have HDI := Lib.hid hdi
    clear hD hdi hP hDg e0 hdg hmg hp7 hp18
    by_cases hm : m = 0
    · subst hm
      by_cases he : e = 0
      · subst he
        go_enter Tryd.func14, Tryd.ntmps14
        go_wp2_with (first | (go_at_call 12; (with_reducible refine (HD.out _ (by repeat' (first | (with_reducible assumption) | (with_reducible refine Tab.alloc ?_ _) | (with_reducible refine Tab.drew ?_) | (with_reducible refine Tab.drewN ?_ _) | (with_reducible refine Tab.setCell ?_ ?_ ?_ _) | omega | (simp; done) | (simp; omega)))).mono ?_); rintro e w' ⟨rfl, rfl⟩))
        go_returns
        exact ⟨rfl, (by repeat' (first | (with_reducible assumption) | (with_reducible exact Kept.refl ht) | (with_reducible refine Kept.alloc ?_ _) | (with_reducible refine Kept.drew ?_) | (with_reducible refine Kept.drewN ?_ _) | (with_reducible refine Kept.setCell ?_ ?_ _ ?_ ?_) | (with_reducible refine Kept.trans ?_ (by assumption)) | omega | (simp; done) | (simp; omega)))⟩
      · have he' : (e == 0) = false := by rw [beq_eq_false_iff_ne]; exact he
        rw [if_pos rfl, decide_eq_false he]
        go_enter Tryd.func14, Tryd.ntmps14
        go_wp2_with (first | (go_at_call 12; (with_reducible refine (HD.out _ (by repeat' (first | (with_reducible assumption) | (with_reducible refine Tab.alloc ?_ _) | (with_reducible refine Tab.drew ?_) | (with_reducible refine Tab.drewN ?_ _) | (with_reducible refine Tab.setCell ?_ ?_ ?_ _) | omega | (simp; done) | (simp; omega)))).mono ?_); rintro e w' ⟨rfl, rfl⟩))
        go_returns
        exact ⟨rfl, (by repeat' (first | (with_reducible assumption) | (with_reducible exact Kept.refl ht) | (with_reducible refine Kept.alloc ?_ _) | (with_reducible refine Kept.drew ?_) | (with_reducible refine Kept.drewN ?_ _) | (with_reducible refine Kept.setCell ?_ ?_ _ ?_ ?_) | (with_reducible refine Kept.trans ?_ (by assumption)) | omega | (simp; done) | (simp; omega)))⟩
    · have hm' : (m == 0) = false := by rw [beq_eq_false_iff_ne]; exact hm
      rw [if_neg hm]
      have ht10 := tmod10 m
      by_cases c1 : m % 10 = 0
      · rw [decide_eq_false (by omega)] at ht10 ⊢
        go_enter Tryd.func14, Tryd.ntmps14
        go_wp2_with (first | (go_at_call 12; (with_reducible refine (HD.out _ (by repeat' (first | (with_reducible assumption) | (with_reducible refine Tab.alloc ?_ _) | (with_reducible refine Tab.drew ?_) | (with_reducible refine Tab.drewN ?_ _) | (with_reducible refine Tab.setCell ?_ ?_ ?_ _) | omega | (simp; done) | (simp; omega)))).mono ?_); rintro e w' ⟨rfl, rfl⟩) | (go_at_call 47; (with_reducible refine (magnitude_any m _ lo hi).mono ?_); rintro e w' ⟨rfl, rfl⟩) | (go_at_call 46; (with_reducible refine (HDI.out _ (by repeat' (first | (with_reducible assumption) | (with_reducible refine Tab.alloc ?_ _) | (with_reducible refine Tab.drew ?_) | (with_reducible refine Tab.drewN ?_ _) | (with_reducible refine Tab.setCell ?_ ?_ ?_ _) | omega | (simp; done) | (simp; omega)))).mono ?_); rintro e w' ⟨rfl, rfl⟩))
        go_returns
        exact ⟨by simp, (by repeat' (first | (with_reducible assumption) | (with_reducible exact Kept.refl ht) | (with_reducible refine Kept.alloc ?_ _) | (with_reducible refine Kept.drew ?_) | (with_reducible refine Kept.drewN ?_ _) | (with_reducible refine Kept.setCell ?_ ?_ _ ?_ ?_) | (with_reducible refine Kept.trans ?_ (by assumption)) | omega | (simp; done) | (simp; omega)))⟩
      · rw [decide_eq_true c1] at ht10
        by_cases c2 : D ≤ P
        · by_cases c3 : -400 ≤ e
          · by_cases c4 : e ≤ 400 + P - D
            · rw [decide_eq_true ⟨c1, c2, c3, c4⟩]
              clear c1
              go_enter Tryd.func14, Tryd.ntmps14
              go_wp2_with (first | (go_at_call 12; (with_reducible refine (HD.out _ (by repeat' (first | (with_reducible assumption) | (with_reducible refine Tab.alloc ?_ _) | (with_reducible refine Tab.drew ?_) | (with_reducible refine Tab.drewN ?_ _) | (with_reducible refine Tab.setCell ?_ ?_ ?_ _) | omega | (simp; done) | (simp; omega)))).mono ?_); rintro e w' ⟨rfl, rfl⟩) | (go_at_call 47; (with_reducible refine (magnitude_any m _ lo hi).mono ?_); rintro e w' ⟨rfl, rfl⟩) | (go_at_call 46; (with_reducible refine (HDI.out _ (by repeat' (first | (with_reducible assumption) | (with_reducible refine Tab.alloc ?_ _) | (with_reducible refine Tab.drew ?_) | (with_reducible refine Tab.drewN ?_ _) | (with_reducible refine Tab.setCell ?_ ?_ ?_ _) | omega | (simp; done) | (simp; omega)))).mono ?_); rintro e w' ⟨rfl, rfl⟩))
              go_returns
              exact ⟨rfl, (by repeat' (first | (with_reducible assumption) | (with_reducible exact Kept.refl ht) | (with_reducible refine Kept.alloc ?_ _) | (with_reducible refine Kept.drew ?_) | (with_reducible refine Kept.drewN ?_ _) | (with_reducible refine Kept.setCell ?_ ?_ _ ?_ ?_) | (with_reducible refine Kept.trans ?_ (by assumption)) | omega | (simp; done) | (simp; omega)))⟩
            · rw [decide_eq_false (by omega)]
              clear c1
              go_enter Tryd.func14, Tryd.ntmps14
              go_wp2_with (first | (go_at_call 12; (with_reducible refine (HD.out _ (by repeat' (first | (with_reducible assumption) | (with_reducible refine Tab.alloc ?_ _) | (with_reducible refine Tab.drew ?_) | (with_reducible refine Tab.drewN ?_ _) | (with_reducible refine Tab.setCell ?_ ?_ ?_ _) | omega | (simp; done) | (simp; omega)))).mono ?_); rintro e w' ⟨rfl, rfl⟩) | (go_at_call 47; (with_reducible refine (magnitude_any m _ lo hi).mono ?_); rintro e w' ⟨rfl, rfl⟩) | (go_at_call 46; (with_reducible refine (HDI.out _ (by repeat' (first | (with_reducible assumption) | (with_reducible refine Tab.alloc ?_ _) | (with_reducible refine Tab.drew ?_) | (with_reducible refine Tab.drewN ?_ _) | (with_reducible refine Tab.setCell ?_ ?_ ?_ _) | omega | (simp; done) | (simp; omega)))).mono ?_); rintro e w' ⟨rfl, rfl⟩))
              go_returns
              exact ⟨by simp; omega, (by repeat' (first | (with_reducible assumption) | (with_reducible exact Kept.refl ht) | (with_reducible refine Kept.alloc ?_ _) | (with_reducible refine Kept.drew ?_) | (with_reducible refine Kept.drewN ?_ _) | (with_reducible refine Kept.setCell ?_ ?_ _ ?_ ?_) | (with_reducible refine Kept.trans ?_ (by assumption)) | omega | (simp; done) | (simp; omega)))⟩
          · rw [decide_eq_false (by omega)]
            clear c1
            go_enter Tryd.func14, Tryd.ntmps14
            go_wp2_with (first | (go_at_call 12; (with_reducible refine (HD.out _ (by repeat' (first | (with_reducible assumption) | (with_reducible refine Tab.alloc ?_ _) | (with_reducible refine Tab.drew ?_) | (with_reducible refine Tab.drewN ?_ _) | (with_reducible refine Tab.setCell ?_ ?_ ?_ _) | omega | (simp; done) | (simp; omega)))).mono ?_); rintro e w' ⟨rfl, rfl⟩) | (go_at_call 47; (with_reducible refine (magnitude_any m _ lo hi).mono ?_); rintro e w' ⟨rfl, rfl⟩) | (go_at_call 46; (with_reducible refine (HDI.out _ (by repeat' (first | (with_reducible assumption) | (with_reducible refine Tab.alloc ?_ _) | (with_reducible refine Tab.drew ?_) | (with_reducible refine Tab.drewN ?_ _) | (with_reducible refine Tab.setCell ?_ ?_ ?_ _) | omega | (simp; done) | (simp; omega)))).mono ?_); rintro e w' ⟨rfl, rfl⟩))
            go_returns
            exact ⟨rfl, (by repeat' (first | (with_reducible assumption) | (with_reducible exact Kept.refl ht) | (with_reducible refine Kept.alloc ?_ _) | (with_reducible refine Kept.drew ?_) | (with_reducible refine Kept.drewN ?_ _) | (with_reducible refine Kept.setCell ?_ ?_ _ ?_ ?_) | (with_reducible refine Kept.trans ?_ (by assumption)) | omega | (simp; done) | (simp; omega)))⟩
        · rw [decide_eq_false (by omega)]
          clear c1
          go_enter Tryd.func14, Tryd.ntmps14
          go_wp2_with (first | (go_at_call 12; (with_reducible refine (HD.out _ (by repeat' (first | (with_reducible assumption) | (with_reducible refine Tab.alloc ?_ _) | (with_reducible refine Tab.drew ?_) | (with_reducible refine Tab.drewN ?_ _) | (with_reducible refine Tab.setCell ?_ ?_ ?_ _) | omega | (simp; done) | (simp; omega)))).mono ?_); rintro e w' ⟨rfl, rfl⟩) | (go_at_call 47; (with_reducible refine (magnitude_any m _ lo hi).mono ?_); rintro e w' ⟨rfl, rfl⟩) | (go_at_call 46; (with_reducible refine (HDI.out _ (by repeat' (first | (with_reducible assumption) | (with_reducible refine Tab.alloc ?_ _) | (with_reducible refine Tab.drew ?_) | (with_reducible refine Tab.drewN ?_ _) | (with_reducible refine Tab.setCell ?_ ?_ ?_ _) | omega | (simp; done) | (simp; omega)))).mono ?_); rintro e w' ⟨rfl, rfl⟩))
          go_returns
          exact ⟨rfl, (by repeat' (first | (with_reducible assumption) | (with_reducible exact Kept.refl ht) | (with_reducible refine Kept.alloc ?_ _) | (with_reducible refine Kept.drew ?_) | (with_reducible refine Kept.drewN ?_ _) | (with_reducible refine Kept.setCell ?_ ?_ _ ?_ ?_) | (with_reducible refine Kept.trans ?_ (by assumption)) | omega | (simp; done) | (simp; omega)))⟩
  · rw [h] at hD ⊢
    simp only [Bool.false_eq_true, if_false] at hD
    rw [Bool.false_and]
    have HD := Lib.hid hD
    clear hD
    go_enter Tryd.func14, Tryd.ntmps14
    go_wp2_with (first | (go_at_call 12; (with_reducible refine (HD.out _ (by repeat' (first | (with_reducible assumption) | (with_reducible refine Tab.alloc ?_ _) | (with_reducible refine Tab.drew ?_) | (with_reducible refine Tab.drewN ?_ _) | (with_reducible refine Tab.setCell ?_ ?_ ?_ _) | omega | (simp; done) | (simp; omega)))).mono ?_); rintro e w' ⟨rfl, rfl⟩))
    go_returns
    exact ⟨rfl, (by repeat' (first | (with_reducible assumption) | (with_reducible exact Kept.refl ht) | (with_reducible refine Kept.alloc ?_ _) | (with_reducible refine Kept.drew ?_) | (with_reducible refine Kept.drewN ?_ _) | (with_reducible refine Kept.setCell ?_ ?_ _ ?_ ?_) | (with_reducible refine Kept.trans ?_ (by assumption)) | omega | (simp; done) | (simp; omega)))⟩
end Go.Proofs.YtcmgphfcpgebfaaDoor
