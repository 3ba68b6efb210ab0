/- Faults lie in the text; the beginnings that set a regime. No conditions. -/
import Derived.Test.YtbnldpcbdeeflaaGreatDoorHv
namespace Go.Proofs.YtbnldpcbdeeflaaGreatDoor
open Go.ChangeShapes Go.WideShapes Go.ChangeAt Go.RowKit


/-- A place in a text. -/
def inT (t : ByteArray) (p : Int) : Prop := 0 ≤ p ∧ p ≤ (t.size : Int)
theorem inT_nat {t : ByteArray} {a : Nat} (h : a ≤ t.size) : inT t (a : Int) := ⟨by omega, by omega⟩
theorem cm_p {t : ByteArray} {a : Int} (ha : inT t a) (i : Nat) : (cmE t a i).2.2 ≠ 0 → inT t (cmE t a i).2.1 := by
  rw [cmE]
  split
  · split
    · split
      · intro h; exact absurd rfl h
      · exact cm_p ha (i + 1)
    · intro _; exact inT_nat (by omega)
  · intro _; exact ha
termination_by t.size - i
theorem lit_p {t : ByteArray} {a : Int} (ha : inT t a) (i : Nat) : (litF t i a).2 ≠ 0 → inT t (litF t i a).1 := by
  unfold litF
  split
  · split
    · split
      · intro h; exact absurd rfl h
      · intro _; exact inT_nat (by omega)
    · intro _; exact inT_nat (by omega)
  · intro _; exact ha
theorem qu_p {t : ByteArray} {a : Int} (ha : inT t a) (i : Nat) : (quE t a i).2.1 ≠ 0 → inT t (quE t a i).1 := by
  rw [quE]
  split
  · rename_i k
    have := lit_lt k
    split
    · split
      · exact qu_p ha (i + 1 + 1)
      · intro h; exact absurd rfl h
    · exact qu_p ha (i + 1)
  · rename_i k; intro _; exact lit_p ha i k
termination_by t.size - i
theorem fm_p {t : ByteArray} {a : Int} (ha : inT t a) (i : Nat) (wi : Bool) : (fmE t a i wi).2.1 ≠ 0 → inT t (fmE t a i wi).1 := by
  rw [fmE]
  split
  · intro h; exact absurd rfl h
  · split
    · rename_i k
      have := lit_lt k
      exact fm_p ha (i + 1) _
    · rename_i k; intro _; exact lit_p ha i k
termination_by t.size - i
theorem rm_p {r : Int} {t x : ByteArray} {a : Int} (ha : inT t a) (i : Nat) : (rmE r t x a i).2.1 ≠ 0 → inT t (rmE r t x a i).1 := by
  rw [rmE]
  split
  · split
    · split
      · intro h; exact absurd rfl h
      · exact rm_p ha _
    · intro _; exact inT_nat (by omega)
  · intro _; exact ha
termination_by t.size - i
decreasing_by omega
theorem rmR_p {r : Int} {t x : ByteArray} {a : Int} {f : Nat} {b : Bool} {l : List Sy} (ha : inT t a) : (rmR r t x a f b l).c ≠ 0 → inT t (rmR r t x a f b l).p := by
  unfold rmR
  split
  · intro h; exact absurd rfl h
  · rename_i k; intro _; exact rm_p ha f k
theorem shR_p {r a z k : Int} {t x : ByteArray} {l : List Sy} (ha : inT t a) : (shR r a z k x l).c ≠ 0 → inT t (shR r a z k x l).p := by
  unfold shR
  split
  · intro _; exact ha
  · intro h; exact absurd rfl h
theorem st_p {r : Int} {t : ByteArray} {a : Nat} {l : List Sy} (ha : a < t.size) : (stR r t a l).c ≠ 0 → inT t (stR r t a l).p := by
  have h0 := inT_nat (Nat.le_of_lt ha)
  unfold stR
  split
  · exact cm_p h0 _
  split
  · unfold quR
    split
    · intro h; exact absurd rfl h
    · rename_i k; intro _; exact qu_p h0 _ k
  split
  · unfold fmR
    split
    · intro h; exact absurd rfl h
    · rename_i k; intro _; exact fm_p h0 _ _ k
  split
  · unfold nuR
    split
    · intro _; exact h0
    split
    · intro _; exact h0
    · intro h; exact absurd rfl h
  split
  · exact shR_p h0
  split
  · unfold snR
    split
    · intro h; exact absurd rfl h
    · intro _; exact h0
  · unfold wdR
    split
    · exact rmR_p h0
    split
    · exact rmR_p h0
    · exact shR_p h0
theorem sy_p (t : ByteArray) : ∀ (n a : Nat) (r : Int) (l : List Sy), t.size - a ≤ n → (syL r t a l).2.1 ≠ 0 → inT t (syL r t a l).1 := by
  intro n
  induction n with
  | zero =>
    intro a r l hn h
    rw [sy_end (by omega)] at h
    exact absurd rfl h
  | succ n ih =>
    intro a r l hn h
    rcases Nat.lt_or_ge a t.size with ha | ha
    · by_cases hc : (stR r t a l).c = 0
      · obtain ⟨m, h1, h2, h3, h4⟩ := st_up ha hc
        have hk := sk_ge t m
        rw [sy_go ha hc h1] at h ⊢
        exact ih (sk t m) _ _ (by omega) h
      · rw [sy_bad ha hc]
        exact st_p ha hc
    · rw [sy_end ha] at h
      exact absurd rfl h
theorem syF_p (r : Int) (t : ByteArray) : inT t (syF r t).1 := by
  have h0 : inT t 0 := ⟨by omega, by omega⟩
  unfold syF
  split
  · split
    · split
      · exact h0
      · rename_i h; exact sy_p t t.size (sk t 0) r [] (by omega) h
    · exact h0
  · exact h0
theorem rs_ext {R : Rs} {r a p c : Int} {l : List Sy} (h1 : R.r = r) (h2 : R.a = a) (h3 : R.l = l) (h4 : R.p = p) (h5 : R.c = c) : R = ⟨r, a, l, p, c⟩ := by
  obtain ⟨r', a', l', p', c'⟩ := R
  simp only at h1 h2 h3 h4 h5
  subst h1 h2 h3 h4 h5
  rfl
theorem hst_00 : stR 0 ⟨#[80, 82, 32, 117, 112, 112, 101, 114, 32, 80, 82]⟩ 0 [] = ⟨0, (ByteArray.size ⟨#[80, 82, 32, 117, 112, 112, 101, 114, 32, 80, 82]⟩ : Int), [], 0, 0⟩ := rs_ext (by decide +kernel) (by decide +kernel) (by decide +kernel) (by decide +kernel) (by decide +kernel)
theorem hst_01 : stR 0 ⟨#[80, 82, 32, 80, 111, 105, 110, 116, 32, 80, 82]⟩ 0 [] = ⟨1, (ByteArray.size ⟨#[80, 82, 32, 80, 111, 105, 110, 116, 32, 80, 82]⟩ : Int), [], 0, 0⟩ := rs_ext (by decide +kernel) (by decide +kernel) (by decide +kernel) (by decide +kernel) (by decide +kernel)
theorem hst_02 : stR 0 ⟨#[80, 82, 32, 32, 113, 117, 111, 116, 101, 10, 32, 80, 82]⟩ 0 [] = ⟨2, (ByteArray.size ⟨#[80, 82, 32, 32, 113, 117, 111, 116, 101, 10, 32, 80, 82]⟩ : Int), [], 0, 0⟩ := rs_ext (by decide +kernel) (by decide +kernel) (by decide +kernel) (by decide +kernel) (by decide +kernel)
theorem hst_10 : stR 1 ⟨#[46, 112, 114, 32, 117, 112, 112, 101, 114, 32, 46, 112, 114]⟩ 0 [] = ⟨0, (ByteArray.size ⟨#[46, 112, 114, 32, 117, 112, 112, 101, 114, 32, 46, 112, 114]⟩ : Int), [], 0, 0⟩ := rs_ext (by decide +kernel) (by decide +kernel) (by decide +kernel) (by decide +kernel) (by decide +kernel)
theorem hst_11 : stR 1 ⟨#[46, 112, 114, 32, 80, 79, 73, 78, 84, 32, 46, 112, 114]⟩ 0 [] = ⟨1, (ByteArray.size ⟨#[46, 112, 114, 32, 80, 79, 73, 78, 84, 32, 46, 112, 114]⟩ : Int), [], 0, 0⟩ := rs_ext (by decide +kernel) (by decide +kernel) (by decide +kernel) (by decide +kernel) (by decide +kernel)
theorem hst_12 : stR 1 ⟨#[46, 112, 114, 32, 32, 113, 117, 111, 116, 101, 10, 32, 46, 112, 114]⟩ 0 [] = ⟨2, (ByteArray.size ⟨#[46, 112, 114, 32, 32, 113, 117, 111, 116, 101, 10, 32, 46, 112, 114]⟩ : Int), [], 0, 0⟩ := rs_ext (by decide +kernel) (by decide +kernel) (by decide +kernel) (by decide +kernel) (by decide +kernel)
theorem hst_20 : stR 2 ⟨#[39, 80, 114, 39, 32, 117, 112, 112, 101, 114, 32, 39, 80, 114, 39]⟩ 0 [] = ⟨0, (ByteArray.size ⟨#[39, 80, 114, 39, 32, 117, 112, 112, 101, 114, 32, 39, 80, 114, 39]⟩ : Int), [], 0, 0⟩ := rs_ext (by decide +kernel) (by decide +kernel) (by decide +kernel) (by decide +kernel) (by decide +kernel)
theorem hst_21 : stR 2 ⟨#[39, 80, 114, 39, 32, 80, 79, 73, 78, 84, 32, 39, 80, 114, 39]⟩ 0 [] = ⟨1, (ByteArray.size ⟨#[39, 80, 114, 39, 32, 80, 79, 73, 78, 84, 32, 39, 80, 114, 39]⟩ : Int), [], 0, 0⟩ := rs_ext (by decide +kernel) (by decide +kernel) (by decide +kernel) (by decide +kernel) (by decide +kernel)
theorem hst_22 : stR 2 ⟨#[39, 80, 114, 39, 32, 32, 113, 117, 111, 116, 101, 10, 32, 39, 80, 114, 39]⟩ 0 [] = ⟨2, (ByteArray.size ⟨#[39, 80, 114, 39, 32, 32, 113, 117, 111, 116, 101, 10, 32, 39, 80, 114, 39]⟩ : Int), [], 0, 0⟩ := rs_ext (by decide +kernel) (by decide +kernel) (by decide +kernel) (by decide +kernel) (by decide +kernel)
end Go.Proofs.YtbnldpcbdeeflaaGreatDoor
