/- What the operations on words come to in each case. No condition. -/
import Derived.Test.YtkehmdocjjadnaaDoorBitD
import Derived.Test.YtkehmdocjjadnaaDoorMask
namespace Go.Proofs.YtkehmdocjjadnaaDoor
open Go.RowKit
def w1 (s v r : Int) : Int × Int := if isSz s then (if isW s v then (r, 0) else (0, 11)) else (0, 1)
def w2 (s v u r : Int) : Int × Int := if isSz s then (if isW s v && isW s u then (r, 0) else (0, 11)) else (0, 1)
def el (s i v : Int) : Bool × Int := if isSz s then (if isW s v then (if i < 1 ∨ wd s < i then (false, 11) else (bt (wd s) i v == 1, 0)) else (false, 11)) else (false, 1)
def bin (s a : Int) : Int × Int := if isSz s then (if isI s a then (if isW s a then (a, 0) else (0, 11)) else (0, 11)) else (0, 1)
def absW (s v : Int) : Int × Int := if isSz s then (if isW s v then fit s v else (0, 11)) else (0, 1)
def lengW (s v : Int) : Int × Int := if s = 1 then (0, 1) else w1 s v v
def shortW (s v : Int) : Int × Int := if s = -1 then (0, 1) else if isSz s then (if isW s v then (if isW (s - 1) v then (v, 0) else (0, 11)) else (0, 11)) else (0, 1)
/-- A word shifted. -/
def shV (s v n : Int) : Int := (shN (wd s).toNat v.toNat n : Int)
theorem w1_no {s v r : Int} (h : isSz s = false) : w1 s v r = (0, 1) := by simp [w1, h]
theorem w2_no {s v u r : Int} (h : isSz s = false) : w2 s v u r = (0, 1) := by simp [w2, h]
theorem el_no {s i v : Int} (h : isSz s = false) : el s i v = (false, 1) := by simp [el, h]
theorem bin_no {s a : Int} (h : isSz s = false) : bin s a = (0, 1) := by simp [bin, h]
theorem absW_no {s v : Int} (h : isSz s = false) : absW s v = (0, 1) := by simp [absW, h]
theorem w1_y {s v r : Int} (h : isSz s = true) : w1 s v r = if isW s v then (r, 0) else (0, 11) := by simp [w1, h]
theorem w2_y {s v u r : Int} (h : isSz s = true) : w2 s v u r = if isW s v && isW s u then (r, 0) else (0, 11) := by simp [w2, h]
theorem el_y {s i v : Int} (h : isSz s = true) : el s i v = if isW s v then (if i < 1 ∨ wd s < i then (false, 11) else (bt (wd s) i v == 1, 0)) else (false, 11) := by simp [el, h]
theorem el_out {s i v : Int} (hs : isSz s = true) (ha : isW s v = true) (h : i < 1 ∨ wd s < i) : el s i v = (false, 11) := by
  rw [el_y hs, ha]; simp only [if_true]; rw [if_pos h]
theorem el_in {s i v : Int} (hs : isSz s = true) (ha : isW s v = true) (h : ¬ (i < 1 ∨ wd s < i)) : el s i v = (bt (wd s) i v == 1, 0) := by
  rw [el_y hs, ha]; simp only [if_true]; rw [if_neg h]
theorem el_bad {s i v : Int} (hs : isSz s = true) (ha : isW s v = false) : el s i v = (false, 11) := by
  rw [el_y hs, ha]; rfl
theorem bin_y {s a : Int} (h : isSz s = true) : bin s a = if isI s a then (if isW s a then (a, 0) else (0, 11)) else (0, 11) := by simp [bin, h]
theorem absW_y {s v : Int} (h : isSz s = true) : absW s v = if isW s v then fit s v else (0, 11) := by simp [absW, h]
theorem lengW_x {v : Int} : lengW 1 v = (0, 1) := rfl
theorem lengW_no {s v : Int} (h1 : ¬ s = 1) (h : isSz s = false) : lengW s v = (0, 1) := by simp [lengW, h1, w1, h]
theorem lengW_y {s v : Int} (h1 : ¬ s = 1) (h : isSz s = true) : lengW s v = if isW s v then (v, 0) else (0, 11) := by simp [lengW, h1, w1, h]
theorem shortW_x {v : Int} : shortW (-1) v = (0, 1) := rfl
theorem shortW_no {s v : Int} (h1 : ¬ s = -1) (h : isSz s = false) : shortW s v = (0, 1) := by simp [shortW, h1, h]
theorem shortW_y {s v : Int} (h1 : ¬ s = -1) (h : isSz s = true) : shortW s v = if isW s v then (if isW (s - 1) v then (v, 0) else (0, 11)) else (0, 11) := by simp [shortW, h1, h]
theorem sz3 {s : Int} (h : isSz s = true) : s = -1 ∨ s = 0 ∨ s = 1 := of_decide_eq_true h
theorem isW_zero {s : Int} (h : isSz s = true) : isW s 0 = true := by rcases sz3 h with rfl | rfl | rfl <;> rfl
theorem shV_big {s v n W : Int} (hW : wd s = W) (h : W ≤ n ∨ n ≤ -W) : shV s v n = 0 := by
  unfold shV shN
  rw [if_pos (by rw [hW]; omega)]; rfl
theorem shV_r {s v n W : Int} (hW : wd s = W) (hv : 0 ≤ v) (h1 : -W < n) (h2 : n < 0) : shV s v n = v / 2 ^ (-n).toNat := by
  unfold shV shN
  rw [if_neg (by rw [hW]; omega), if_pos h2]
  push_cast
  rw [Int.toNat_of_nonneg hv]
theorem shV_l {s v n W : Int} (hW : wd s = W) (hv : 0 ≤ v) (h1 : n < W) (h2 : ¬ n < 0) : shV s v n = v * 2 ^ n.toNat % 2 ^ W.toNat := by
  unfold shV shN
  rw [if_neg (by rw [hW]; omega), if_neg h2]
  push_cast
  rw [Int.toNat_of_nonneg hv, hW]
end Go.Proofs.YtkehmdocjjadnaaDoor
