/- The scanner's comments and pragmats. Condition: the scanner's block and its list lie in blocks of the call's own. -/
import Derived.Test.YtbnldpcbdeeflaaGreatDoorSn
namespace Go.Proofs.YtbnldpcbdeeflaaGreatDoor
open Go.ChangeShapes Go.WideShapes Go.ChangeAt Go.RowKit

theorem bd_end (r : Int) (t : ByteArray) (i : Nat) (hi : i < t.size) : i ≤ (bdF r t i).2 ∧ (bdF r t i).2 ≤ t.size := by
  have h1 := ru_ge bCd bCd0 t i
  have h2 := ru_le bCd bCd0 t i (by omega)
  have h3 := ru_ge bLd bLd0 t (i + 1)
  have h4 := ru_le bLd bLd0 t (i + 1) hi
  unfold bdF
  split
  · split
    · exact ⟨h1, h2⟩
    · exact ⟨Nat.le_refl _, Nat.le_of_lt hi⟩
  · split
    · split
      · rename_i h
        have h5 : ru bLd bLd0 t (i + 1) < t.size := by
          rcases Nat.lt_or_ge (ru bLd bLd0 t (i + 1)) t.size with h5 | h5
          · exact h5
          · have h6 := h.2.2
            rw [pk_out h5] at h6
            cases h6
        exact ⟨by show i ≤ _ + 1; omega, h5⟩
      · exact ⟨Nat.le_refl _, Nat.le_of_lt hi⟩
    · split
      · exact ⟨by show i ≤ ru bLd bLd0 t (i + 1); omega, h4⟩
      · exact ⟨Nat.le_refl _, Nat.le_of_lt hi⟩
theorem cd_asc {c : Int} (h : bCd c = true) : c < 128 := by
  unfold bCd bCa bDi at h
  simp only [Bool.or_eq_true, decide_eq_true_eq] at h
  omega
theorem ld_asc {c : Int} (h : bLd c = true) : c < 128 := by
  unfold bLd bLe bSm bCa bDi at h
  simp only [Bool.or_eq_true, decide_eq_true_eq] at h
  omega
theorem tx_asc {c : Int} (h : bTx c = true) : c < 128 := by
  unfold bTx bPr bBl at h
  simp only [Bool.or_eq_true, decide_eq_true_eq] at h
  omega
theorem bd_asc (r : Int) (t : ByteArray) (i : Nat) (hi : bTx (pk t i) = true) : ∀ j, i ≤ j → j < (bdF r t i).2 → pk t j < 128 := by
  intro j h1 h2
  by_cases e : j = i
  · subst e; exact tx_asc hi
  · unfold bdF at h2
    split at h2
    · split at h2
      · exact cd_asc (ru_all bCd bCd0 t i j h1 h2)
      · have h3 : j < i := h2
        omega
    · split at h2
      · split at h2
        · rename_i h
          have h3 : j < ru bLd bLd0 t (i + 1) + 1 := h2
          rcases Nat.lt_or_ge j (ru bLd bLd0 t (i + 1)) with h4 | h4
          · exact ld_asc (ru_all bLd bLd0 t (i + 1) j (by omega) h4)
          · have h5 : j = ru bLd bLd0 t (i + 1) := by omega
            rw [h5, h.2.2]
            decide
        · have h3 : j < i := h2
          omega
      · split at h2
        · exact ld_asc (ru_all bLd bLd0 t (i + 1) j (by omega) h2)
        · have h3 : j < i := h2
          omega
/-- Where a comment that begins with a bold word ends: what is wrong, where and the code; the end of its inner text; the index behind it. -/
def rmE (r : Int) (t x : ByteArray) (a : Int) (i : Nat) : Int × Int × Nat × Nat :=
  if i < t.size then
    (if bTx (pk t i) = true then
      (if (bdF r t i).1 = x ∧ jn r t i = false then (0, 0, i, (bdF r t i).2) else rmE r t x a (max (i + 1) (bdF r t i).2))
     else ((i : Int), 2, i, i))
  else (a, 16, i, i)
termination_by t.size - i
decreasing_by omega
theorem rm_out {r : Int} {t x : ByteArray} {a : Int} {i : Nat} (h : t.size ≤ i) : rmE r t x a i = (a, 16, i, i) := by rw [rmE, if_neg (by omega)]
theorem rm_bad {r : Int} {t x : ByteArray} {a : Int} {i : Nat} (h : i < t.size) (k : bTx (pk t i) = false) : rmE r t x a i = ((i : Int), 2, i, i) := by rw [rmE, if_pos h, if_neg (by rw [k]; decide)]
theorem rm_end {r : Int} {t x : ByteArray} {a : Int} {i : Nat} (h : i < t.size) (k : bTx (pk t i) = true) (m : (bdF r t i).1 = x) (n : jn r t i = false) : rmE r t x a i = (0, 0, i, (bdF r t i).2) := by rw [rmE, if_pos h, if_pos k, if_pos ⟨m, n⟩]
theorem rm_go {r : Int} {t x : ByteArray} {a : Int} {i : Nat} (h : i < t.size) (k : bTx (pk t i) = true) (m : ¬ ((bdF r t i).1 = x ∧ jn r t i = false)) : rmE r t x a i = rmE r t x a (max (i + 1) (bdF r t i).2) := by
  conv => lhs; rw [rmE, if_pos h, if_pos k, if_neg m]
/-- What a comment or a pragmat leaves. -/
def rmR (r : Int) (t x : ByteArray) (a : Int) (f : Nat) (b : Bool) (l : List Sy) : Rs :=
  if (rmE r t x a f).2.1 = 0 then ⟨if b = true then pgR r (t.extract f (rmE r t x a f).2.2.1) else r, ((rmE r t x a f).2.2.2 : Int), l, 0, 0⟩
  else ⟨r, a, l, (rmE r t x a f).1, (rmE r t x a f).2.1⟩
theorem ext_asc (t : ByteArray) (f i : Nat) (h : ∀ j, f ≤ j → j < i → pk t j < 128) (hi : i ≤ t.size) : ∀ c ∈ (t.extract f i).data.toList, c.toNat < 128 := by
  intro c hc
  obtain ⟨j, hj⟩ := List.getElem?_of_mem hc
  rw [Lib.extract_data, List.getElem?_take] at hj
  split at hj
  · rw [List.getElem?_drop] at hj
    have hlt : f + j < t.size := by omega
    have h1 := h (f + j) (by omega) (by omega)
    rw [pk_in hlt] at h1
    have h2 : t.data.toList[f + j]? = some t[f + j] := by rw [Array.getElem?_toList]; exact Array.getElem?_eq_getElem hlt
    rw [h2] at hj
    rw [← Option.some.inj hj]
    omega
  · cases hj
end Go.Proofs.YtbnldpcbdeeflaaGreatDoor
