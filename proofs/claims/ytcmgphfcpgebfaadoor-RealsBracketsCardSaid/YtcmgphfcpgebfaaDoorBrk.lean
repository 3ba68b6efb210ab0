/- The four directions of one number: plain mathematics. No condition. -/
import Derived.Test.YtcmgphfcpgebfaaDoorOrd
namespace Go.Proofs.YtcmgphfcpgebfaaDoor

theorem rv_inw {p V : Nat} {how how' : Int} {neg m : Bool} (h : how ≠ 0) (h' : how' ≠ 0) (hi : inw how neg = inw how' neg) : rv p how neg V m = rv p how' neg V m := by
  unfold rv rq grow
  rw [if_neg h, if_neg h', hi]
theorem oV_inw {p V : Nat} {how how' : Int} {neg m : Bool} (h : how ≠ 0) (h' : how' ≠ 0) (hi : inw how neg = inw how' neg) : oV p how neg V m = oV p how' neg V m := by
  unfold oV ovf
  rw [rv_inw h h' hi, hi]
theorem rv_lohi {p V : Nat} {l h : Int} {neg m : Bool} (hl : l ≠ 0) (hh : h ≠ 0) (il : inw l neg = true) (ih : inw h neg = false) :
    rv p l neg V m ≤ rv p h neg V m ∧ (rv p 0 neg V m = rv p l neg V m ∨ rv p 0 neg V m = rv p h neg V m) := by
  unfold rv rq grow
  rw [if_neg hl, if_neg hh, if_pos rfl, il, ih]
  generalize V / 10 ^ lst p V = q
  generalize tl V m (lst p V) = t
  simp only [Bool.not_true, Bool.and_false, Bool.false_eq_true, if_false, Bool.not_false, Bool.and_true, decide_eq_true_eq]
  refine ⟨Nat.mul_le_mul_right _ (by omega), ?_⟩
  by_cases h0 : t = 3 ∨ t = 2 ∧ q % 2 = 1
  · right
    rw [if_pos h0, if_pos (by omega)]
  · left
    rw [if_neg h0]
theorem rX_zero {p : Nat} {how : Int} {neg m : Bool} {V : Nat} (h : rX p how neg V m = 0) : oF p how neg V m = false := by
  unfold rX at h
  cases hc : oF p how neg V m
  · rfl
  · rw [hc] at h; simp at h
theorem oV_rv {p : Nat} {how : Int} {neg m : Bool} {V : Nat} (h : oF p how neg V m = false) (hi : inw how neg = false) : rv p how neg V m < 10 ^ (p + 1500) ∧ oV p how neg V m = rv p how neg V m := by
  unfold oF ovf at h
  rw [hi] at h
  have h1 : ¬ 10 ^ (p + 1500) ≤ rv p how neg V m := by simpa using h
  refine ⟨by omega, ?_⟩
  unfold oV ovf
  rw [decide_eq_false h1]
  simp
theorem oV_lt {p : Nat} {how : Int} {neg m : Bool} {V : Nat} (h : rv p how neg V m < 10 ^ (p + 1500)) : oV p how neg V m = rv p how neg V m := by
  unfold oV ovf
  rw [decide_eq_false (by omega)]
  simp
theorem inw0 (neg : Bool) : inw 0 neg = false := by unfold inw; simp
/-- The greater and the lesser absolute value, and the nearest one. -/
theorem oV_lohi {p V : Nat} {l h : Int} {neg m : Bool} (hl : l ≠ 0) (hh : h ≠ 0) (il : inw l neg = true) (ih : inw h neg = false) (e0 : rX p 0 neg V m = 0) (eh : rX p h neg V m = 0) :
    oV p l neg V m ≤ oV p h neg V m ∧ (oV p 0 neg V m = oV p l neg V m ∨ oV p 0 neg V m = oV p h neg V m) := by
  obtain ⟨a, b⟩ := rv_lohi (p := p) (V := V) (m := m) hl hh il ih
  obtain ⟨c, d⟩ := oV_rv (rX_zero eh) ih
  obtain ⟨c0, d0⟩ := oV_rv (rX_zero e0) (inw0 neg)
  rw [oV_lt (p := p) (how := l) (by omega), d, d0]
  exact ⟨a, b⟩
/-- Down, Up, Nearest and Zero of one number. -/
theorem brackets {p V : Nat} {neg m : Bool} (e0 : rX p 0 neg V m = 0) (e1 : rX p 1 neg V m = 0) (e2 : rX p 2 neg V m = 0) :
    sg neg (oV p 2 neg V m) ≤ sg neg (oV p 1 neg V m) ∧
    (oV p 0 neg V m = oV p 1 neg V m ∨ oV p 0 neg V m = oV p 2 neg V m) ∧
    (rM p 3 neg V m = if rM p 2 neg V m < 0 then rM p 1 neg V m else rM p 2 neg V m) ∧
    (rE p 3 neg V m = if rM p 2 neg V m < 0 then rE p 1 neg V m else rE p 2 neg V m) := by
  unfold rM rE
  cases neg
  · obtain ⟨a, b⟩ := oV_lohi (p := p) (V := V) (m := m) (neg := false) (l := 2) (h := 1) (by omega) (by omega) (by decide) (by decide) e0 e1
    rw [oV_inw (how := 3) (how' := 2) (by omega) (by omega) (by decide)]
    have hp : ¬ fM false (oV p 2 false V m) < 0 := by unfold fM sg; simp
    rw [if_neg hp, if_neg hp]
    refine ⟨by unfold sg; simp; exact a, b.symm, rfl, rfl⟩
  · obtain ⟨a, b⟩ := oV_lohi (p := p) (V := V) (m := m) (neg := true) (l := 1) (h := 2) (by omega) (by omega) (by decide) (by decide) e0 e2
    rw [oV_inw (how := 3) (how' := 1) (by omega) (by omega) (by decide)]
    refine ⟨by unfold sg; simp; exact a, b, ?_⟩
    by_cases h0 : oV p 2 true V m = 0
    · have h1 : oV p 1 true V m = 0 := by omega
      rw [h0, h1]
      simp
    · have hp : fM true (oV p 2 true V m) < 0 := of_decide_eq_true (form_neg h0)
      rw [if_pos hp, if_pos hp]
      exact ⟨rfl, rfl⟩
end Go.Proofs.YtcmgphfcpgebfaaDoor
