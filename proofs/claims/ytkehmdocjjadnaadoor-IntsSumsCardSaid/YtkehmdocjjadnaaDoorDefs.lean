/- Plain definitions: what the operations on integers of three lengths come to. No condition. -/
import Derived.Test.YtkehmdocjjadnaaDoorTab
namespace Go.Proofs.YtkehmdocjjadnaaDoor

/-- A size. -/
def isSz (s : Int) : Bool := decide (s = -1 ∨ s = 0 ∨ s = 1)
/-- The greatest integer of a size; 0 if it is none. -/
def mx (s : Int) : Int := if s = -1 then 32767 else if s = 0 then 2147483647 else if s = 1 then 999999999999999999 else 0
/-- The bits of a word of a size; 0 if it is none. -/
def wd (s : Int) : Int := if s = -1 then 16 else if s = 0 then 32 else if s = 1 then 60 else 0
/-- The greatest word of a size. -/
def mw (s : Int) : Int := if s = -1 then 65535 else if s = 0 then 4294967295 else if s = 1 then 1152921504606846975 else 0
def isI (s n : Int) : Bool := decide ((s = -1 ∨ s = 0 ∨ s = 1) ∧ -mx s ≤ n ∧ n ≤ mx s)
def isW (s n : Int) : Bool := decide ((s = -1 ∨ s = 0 ∨ s = 1) ∧ 0 ≤ n ∧ n ≤ mw s)

theorem sz_cases (s : Int) : s = -1 ∨ s = 0 ∨ s = 1 ∨ s < -1 ∨ 1 < s := by omega
theorem isSz_lo {s : Int} (h : s < -1) : isSz s = false := by simp [isSz]; omega
theorem isSz_hi {s : Int} (h : 1 < s) : isSz s = false := by simp [isSz]; omega
theorem mx_lo {s : Int} (h : s < -1) : mx s = 0 := by unfold mx; rw [if_neg (by omega), if_neg (by omega), if_neg (by omega)]
theorem mx_hi {s : Int} (h : 1 < s) : mx s = 0 := by unfold mx; rw [if_neg (by omega), if_neg (by omega), if_neg (by omega)]
theorem wd_lo {s : Int} (h : s < -1) : wd s = 0 := by unfold wd; rw [if_neg (by omega), if_neg (by omega), if_neg (by omega)]
theorem wd_hi {s : Int} (h : 1 < s) : wd s = 0 := by unfold wd; rw [if_neg (by omega), if_neg (by omega), if_neg (by omega)]

theorem isI_or (s a : Int) : (isI s a = true ∧ -999999999999999999 ≤ a ∧ a ≤ 999999999999999999) ∨ isI s a = false := by
  by_cases h : isI s a = true
  · refine Or.inl ⟨h, ?_⟩
    have h := of_decide_eq_true h
    obtain ⟨h1, h2, h3⟩ := h
    rcases h1 with rfl | rfl | rfl <;> simp [mx] at h2 h3 <;> omega
  · exact Or.inr (by simpa using h)
theorem isW_or (s a : Int) : (isW s a = true ∧ 0 ≤ a ∧ a ≤ 1152921504606846975) ∨ isW s a = false := by
  by_cases h : isW s a = true
  · refine Or.inl ⟨h, ?_⟩
    have h := of_decide_eq_true h
    obtain ⟨h1, h2, h3⟩ := h
    rcases h1 with rfl | rfl | rfl <;> simp [mw] at h2 h3 <;> omega
  · exact Or.inr (by simpa using h)
theorem isI_lo {s n : Int} (h : s < -1) : isI s n = false := by simp [isI]; omega
theorem isI_hi {s n : Int} (h : 1 < s) : isI s n = false := by simp [isI]; omega
theorem isW_lo {s n : Int} (h : s < -1) : isW s n = false := by simp [isW]; omega
theorem isW_hi {s n : Int} (h : 1 < s) : isW s n = false := by simp [isW]; omega
theorem isI_a (n : Int) : isI (-1) n = decide (-32767 ≤ n ∧ n ≤ 32767) := by simp [isI, mx]
theorem isI_b (n : Int) : isI 0 n = decide (-2147483647 ≤ n ∧ n ≤ 2147483647) := by simp [isI, mx]
theorem isI_c (n : Int) : isI 1 n = decide (-999999999999999999 ≤ n ∧ n ≤ 999999999999999999) := by simp [isI, mx]
theorem isW_a (n : Int) : isW (-1) n = decide (0 ≤ n ∧ n ≤ 65535) := by simp [isW, mw]
theorem isW_b (n : Int) : isW 0 n = decide (0 ≤ n ∧ n ≤ 4294967295) := by simp [isW, mw]
theorem isW_c (n : Int) : isW 1 n = decide (0 ≤ n ∧ n ≤ 1152921504606846975) := by simp [isW, mw]
/-- The error of a size, or else of what is asked of the operands. -/
def ck (s : Int) (ok : Bool) : Int := if isSz s then (if ok then 0 else 11) else 1
/-- An operation's result: the error of the size, of the operands, of the result. -/
def res (s : Int) (args ok : Bool) (r : Int) : Int × Int := if isSz s then (if args then (if ok then (r, 0) else (0, 11)) else (0, 11)) else (0, 1)
theorem ck_no {s : Int} {ok : Bool} (h : isSz s = false) : ck s ok = 1 := by simp [ck, h]
theorem ck_yes {s : Int} {ok : Bool} (h : isSz s = true) : ck s ok = if ok then 0 else 11 := by simp [ck, h]
/-- The absolute value. -/
def mag (a : Int) : Int := if a < 0 then -a else a
theorem mag_neg {a : Int} (h : a < 0) : mag a = -a := by simp [mag, h]
theorem mag_pos {a : Int} (h : 0 ≤ a) : mag a = a := by unfold mag; rw [if_neg (by omega)]
/-- A result that must be an integer of the size. -/
def fit (s n : Int) : Int × Int := if isI s n then (n, 0) else (0, 11)

end Go.Proofs.YtkehmdocjjadnaaDoor
