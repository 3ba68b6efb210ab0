/- Plain definitions and lemmas: what the operations come to in each case. No condition. -/
import Derived.Test.YtkehmdocjjadnaaDoorDefs2
namespace Go.Proofs.YtkehmdocjjadnaaDoor
open Go.RowKit
theorem u2_y {s a b r : Int} (h : isSz s = true) : u2 s a b r = if isI s a && isI s b then fit s r else (0, 11) := by simp [u2, h]
theorem d2_z {s a b r : Int} (h : isSz s = true) (ha : isI s a = true) (hb : isI s b = true) (h0 : b = 0) : d2 s a b r = (0, 11) := by simp only [d2, h, ha, hb, Bool.and_self, if_true, if_pos h0]
theorem d2_nz {s a b r : Int} (h : isSz s = true) (ha : isI s a = true) (hb : isI s b = true) (h0 : b ≠ 0) : d2 s a b r = (r, 0) := by simp only [d2, h, ha, hb, Bool.and_self, if_true, if_neg h0]
theorem d2_n {s a b r : Int} (h : isSz s = true) (hab : (isI s a && isI s b) = false) : d2 s a b r = (0, 11) := by simp only [d2, h, hab]; rfl
theorem one_y {s a r : Int} (h : isSz s = true) : one s a r = if isI s a then (r, 0) else (0, 11) := by simp [one, h]
/-- The value of Mod. -/
def modV (a b : Int) : Int := if a.tmod b < 0 then a.tmod b + mag b else a.tmod b
theorem modV_neg {a b : Int} (h : a.tmod b < 0) : modV a b = a.tmod b + mag b := by simp [modV, h]
theorem modV_pos {a b : Int} (h : ¬ a.tmod b < 0) : modV a b = a.tmod b := by simp [modV, h]
def sgn (a : Int) : Int := if a < 0 then -1 else if 0 < a then 1 else 0
theorem sgn_neg {a : Int} (h : a < 0) : sgn a = -1 := by simp [sgn, h]
theorem sgn_z : sgn 0 = 0 := rfl
theorem sgn_pos {a : Int} (h : 0 < a) : sgn a = 1 := by unfold sgn; rw [if_neg (by omega), if_pos h]
def oddV (a : Int) : Bool := a.tmod 2 != 0
theorem odd_eq (a : Int) : oddV a = (a.tmod 2 != 0) := rfl
def od (s a : Int) : Bool × Int := if isSz s then (if isI s a then (oddV a, 0) else (false, 11)) else (false, 1)
theorem od_no {s a : Int} (h : isSz s = false) : od s a = (false, 1) := by simp [od, h]
theorem od_y {s a : Int} (h : isSz s = true) : od s a = if isI s a then (oddV a, 0) else (false, 11) := by simp [od, h]
def leng (s a : Int) : Int × Int := if s = 1 then (0, 1) else one s a a
theorem leng_x {a : Int} : leng 1 a = (0, 1) := rfl
theorem leng_no {s a : Int} (h1 : ¬ s = 1) (h : isSz s = false) : leng s a = (0, 1) := by simp [leng, h1, one, h]
theorem leng_y {s a : Int} (h1 : ¬ s = 1) (h : isSz s = true) : leng s a = if isI s a then (a, 0) else (0, 11) := by simp [leng, h1, one, h]
def shorten (s a : Int) : Int × Int := if s = -1 then (0, 1) else if isSz s then (if isI s a then fit (s - 1) a else (0, 11)) else (0, 1)
theorem shorten_x {a : Int} : shorten (-1) a = (0, 1) := rfl
theorem shorten_no {s a : Int} (h1 : ¬ s = -1) (h : isSz s = false) : shorten s a = (0, 1) := by simp [shorten, h1, h]
theorem shorten_y {s a : Int} (h1 : ¬ s = -1) (h : isSz s = true) : shorten s a = if isI s a then fit (s - 1) a else (0, 11) := by simp [shorten, h1, h]
theorem isSz_bd {s : Int} (h : isSz s = true) : -1 ≤ s ∧ s ≤ 1 := by have h := of_decide_eq_true h; omega
theorem isSz_not {s : Int} (h : isSz s = false) : s ≠ -1 ∧ s ≠ 0 ∧ s ≠ 1 := by
  have h := of_decide_eq_false h; omega
theorem mx_no {s : Int} (h : isSz s = false) : mx s = 0 := by obtain ⟨h1, h2, h3⟩ := isSz_not h; simp [mx, h1, h2, h3]
theorem wd_no {s : Int} (h : isSz s = false) : wd s = 0 := by obtain ⟨h1, h2, h3⟩ := isSz_not h; simp [wd, h1, h2, h3]
end Go.Proofs.YtkehmdocjjadnaaDoor
