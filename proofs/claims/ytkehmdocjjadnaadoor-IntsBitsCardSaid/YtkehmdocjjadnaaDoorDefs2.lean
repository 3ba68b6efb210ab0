/- Plain definitions and lemmas: results of the operations, products and quotients. No condition. -/
import Derived.Test.YtkehmdocjjadnaaDoorHelp
import Derived.WalkSmall
import Derived.Deep.QuietTactic
import Derived.BigQuiet
namespace Go.Proofs.YtkehmdocjjadnaaDoor
open Go.RowKit
theorem Kept.drewN {a b : World} (h : Kept a b) (n : Nat) : Kept a (b.drewN n) :=
  ⟨h.1.below (below_drewN (Below.refl b.heap.size b) n) h.1.lt, ⟨below_drewN h.2.toBelow n, fun x => h.2.fz x⟩⟩
theorem ck_t {s : Int} (h : isSz s = true) : ck s true = 0 := by simp [ck, h]
theorem ck_f {s : Int} (h : isSz s = true) : ck s false = 11 := by simp [ck, h]
/-- One operand, a result that always fits. -/
def one (s a r : Int) : Int × Int := if isSz s then (if isI s a then (r, 0) else (0, 11)) else (0, 1)
/-- One operand, a result that must fit. -/
def u1 (s a r : Int) : Int × Int := if isSz s then (if isI s a then fit s r else (0, 11)) else (0, 1)
/-- Two operands, a result that must fit. -/
def u2 (s a b r : Int) : Int × Int := if isSz s then (if isI s a && isI s b then fit s r else (0, 11)) else (0, 1)
/-- Two operands, the second one not 0. -/
def d2 (s a b r : Int) : Int × Int := if isSz s then (if isI s a && isI s b then (if b = 0 then (0, 11) else (r, 0)) else (0, 11)) else (0, 1)
theorem mx_nn (s : Int) : 0 ≤ mx s := by unfold mx; split <;> (try split) <;> (try split) <;> omega
theorem mx_le (s : Int) : mx s ≤ 999999999999999999 := by unfold mx; split <;> (try split) <;> (try split) <;> omega
theorem isI_iff {s n : Int} (h : isSz s = true) : isI s n = true ↔ -mx s ≤ n ∧ n ≤ mx s := by
  have h := of_decide_eq_true h
  unfold isI
  rw [decide_eq_true_iff]
  exact ⟨fun h' => h'.2, fun h' => ⟨h, h'⟩⟩
theorem isI_zero {s : Int} (h : isSz s = true) : isI s 0 = true := by rw [isI_iff h]; have := mx_nn s; omega
theorem isI_neg {s n : Int} : isI s (-n) = isI s n := by
  unfold isI; congr 1; apply propext; constructor <;> (intro h; exact ⟨h.1, by omega⟩)
theorem mag_nn (a : Int) : 0 ≤ mag a := by unfold mag; split <;> omega
theorem mag_natAbs (a : Int) : mag a = (a.natAbs : Int) := by unfold mag; split <;> omega
theorem mag_mul (a b : Int) : mag (a * b) = mag a * mag b := by simp only [mag_natAbs, Int.natAbs_mul]; push_cast; rfl
theorem isI_mag {s n : Int} (h : isSz s = true) : isI s n = true ↔ mag n ≤ mx s := by
  rw [isI_iff h]; unfold mag; split <;> omega
/-- A product fits exactly if the one factor is at most the greatest integer divided by the other one. -/
theorem mul_fits {s a b : Int} (h : isSz s = true) (hb : b ≠ 0) : isI s (a * b) = true ↔ mag a ≤ mx s / mag b := by
  rw [isI_mag h, mag_mul]
  have : 0 < mag b := by unfold mag; split <;> omega
  exact (Int.le_ediv_iff_mul_le this).symm
theorem one_no {s a r : Int} (h : isSz s = false) : one s a r = (0, 1) := by simp [one, h]
theorem u2_no {s a b r : Int} (h : isSz s = false) : u2 s a b r = (0, 1) := by simp [u2, h]
theorem d2_no {s a b r : Int} (h : isSz s = false) : d2 s a b r = (0, 1) := by simp [d2, h]
theorem fit_y {s r : Int} (h : isI s r = true) : fit s r = (r, 0) := by simp [fit, h]
theorem fit_n {s r : Int} (h : isI s r = false) : fit s r = (0, 11) := by simp [fit, h]
theorem tdiv_bd {a b : Int} (h1 : -999999999999999999 ≤ a) (h2 : a ≤ 999999999999999999) : -999999999999999999 ≤ a.tdiv b ∧ a.tdiv b ≤ 999999999999999999 := by
  have := Int.natAbs_tdiv_le_natAbs a b
  omega
theorem tmod_bd {a b : Int} (hb : b ≠ 0) : -(b.natAbs : Int) < a.tmod b ∧ a.tmod b < b.natAbs := by
  by_cases h : 0 ≤ b
  · have h1 := Int.tmod_lt_of_pos a (b := b) (by omega)
    have h2 := Int.lt_tmod_of_pos a (b := b) (by omega)
    omega
  · have h1 := Int.tmod_lt_of_pos a (b := -b) (by omega)
    have h2 := Int.lt_tmod_of_pos a (b := -b) (by omega)
    rw [Int.tmod_neg] at h1 h2
    omega
end Go.Proofs.YtkehmdocjjadnaaDoor
