/- Doubled quotes, and how long what is written is. No conditions. -/
import Derived.Test.YtbnldpcbdeeflaaGreatDoorMt
namespace Go.Proofs.YtbnldpcbdeeflaaGreatDoor
open Go.ChangeShapes Go.WideShapes Go.ChangeAt Go.RowKit

theorem rb_eq (s : List UInt8) : Lib.replaceAll s [34] [34, 34] = Lib.replaceK [34] [34, 34] (Lib.count s [34]) s := by
  unfold Lib.replaceAll Lib.replace
  rw [if_neg (by decide)]
  unfold Lib.replaceNum
  rw [if_pos (Or.inl (by decide))]
theorem rb_nil : Lib.replaceAll [] [34] [34, 34] = [] := by decide
theorem rb_one (c : UInt8) (l : List UInt8) (h : c ≠ 34) : Lib.replaceAll (c :: l) [34] [34, 34] = c :: Lib.replaceAll l [34] [34, 34] := by
  rw [rb_eq, rb_eq]
  have hp : ([34] : List UInt8).isPrefixOf (c :: l) = false := by
    unfold List.isPrefixOf
    rw [show ((34 : UInt8) == c) = false from beq_eq_false_iff_ne.2 (Ne.symm h)]
    rfl
  have hge := Lib.index_ge l [34]
  have hi : Lib.index (c :: l) [34] = if Lib.index l [34] == -1 then -1 else Lib.index l [34] + 1 := by
    rw [Lib.index, hp, if_neg (by decide)]
  by_cases h1 : Lib.index l [34] = -1
  · rw [h1] at hi
    rw [Lib.count_miss h1, Lib.count_miss (s := c :: l) (by rw [hi]; rfl)]
    rfl
  · obtain ⟨i, hn⟩ : ∃ i : Nat, Lib.index l [34] = i := ⟨(Lib.index l [34]).toNat, by omega⟩
    have hi2 : Lib.index (c :: l) [34] = ((i + 1 : Nat) : Int) := by
      rw [hi, if_neg (by rw [beq_iff_eq]; exact h1), hn]
      omega
    have hd : (c :: l).drop (i + 1 + ([34] : List UInt8).length) = l.drop (i + ([34] : List UInt8).length) := rfl
    rw [Lib.count_hit (by decide) hi2, Lib.count_hit (by decide) hn, hd, Nat.add_comm 1, Lib.replaceK_hit _ _ _ _ _ hi2, Lib.replaceK_hit _ _ _ _ _ hn, hd]
    rfl
theorem rb_q (l : List UInt8) : Lib.replaceAll (34 :: l) [34] [34, 34] = 34 :: 34 :: Lib.replaceAll l [34] [34, 34] := by
  rw [rb_eq, rb_eq]
  have hi : Lib.index (34 :: l) [34] = ((0 : Nat) : Int) := by
    rw [Lib.index, if_pos (by simp [List.isPrefixOf])]
    rfl
  rw [Lib.count_hit (by decide) hi, Nat.add_comm 1, Lib.replaceK_hit _ _ _ _ _ hi]
  rfl
theorem rb_map : ∀ l : List UInt8, Lib.replaceAll l [34] [34, 34] = l.flatMap fun c => if c = 34 then [34, 34] else [c]
  | [] => rb_nil
  | c :: l => by
    by_cases h : c = 34
    · subst h
      rw [rb_q, rb_map l, List.flatMap_cons, if_pos rfl]
      rfl
    · rw [rb_one c l h, rb_map l, List.flatMap_cons, if_neg h]
      rfl
theorem rb_len : ∀ l : List UInt8, (Lib.replaceAll l [34] [34, 34]).length ≤ 2 * l.length
  | [] => by rw [rb_nil]; exact Nat.zero_le _
  | c :: l => by
    have := rb_len l
    by_cases h : c = 34
    · subst h
      rw [rb_q]
      simp only [List.length_cons]
      omega
    · rw [rb_one c l h]
      simp only [List.length_cons]
      omega
theorem dbQ_size (x : ByteArray) : (dbQ x).size ≤ 2 * x.size := by
  have h := rb_len x.data.toList
  show (Lib.replaceAll x.data.toList [34] [34, 34]).toArray.size ≤ _
  rw [List.size_toArray]
  rw [Array.length_toList] at h
  exact h
theorem wrF_size (k r : Int) (x : ByteArray) : (wrF k r x).size ≤ 2 * x.size + 2 := by
  have h1 := boF_size r x
  have h2 := dbQ_size x
  have e1 : (ByteArray.mk #[34]).size = 1 := rfl
  have e2 : (ByteArray.mk #[36]).size = 1 := rfl
  unfold wrF
  split
  · omega
  split
  · rw [ByteArray.size_append, ByteArray.size_append]; omega
  split
  · rw [ByteArray.size_append, ByteArray.size_append]; omega
  · omega
theorem spF_size (k k2 : Int) : (spF k k2).size ≤ 4 ∧ 0 < (spF k k2).size := by
  unfold spF
  split
  · exact ⟨by decide, by decide⟩
  · exact ⟨by decide, by decide⟩
/-- The ith symbol. -/
def sA (l : List Sy) (i : Nat) : Sy := l.getD i (0, ⟨#[]⟩, 0)
theorem sA_eq {l : List Sy} {i : Nat} {s : Sy} (h : l[i]? = some s) : sA l i = s := by
  unfold sA
  rw [List.getD_eq_getElem?_getD, h]
  rfl
/-- What is written before the ith symbol. -/
def txB (r : Int) (l : List Sy) : Nat → List UInt8
  | 0 => []
  | i + 1 => (if i = 0 then [] else txB r l i ++ (spF (sA l (i - 1)).1 (sA l i).1).data.toList) ++ (wrF (sA l i).1 r (sA l i).2.1).data.toList
theorem txB_one (r : Int) (l : List Sy) : txB r l 1 = [] ++ (wrF (sA l 0).1 r (sA l 0).2.1).data.toList := rfl
theorem txB_more (r : Int) (l : List Sy) (i : Nat) : txB r l (i + 1 + 1) = txB r l (i + 1) ++ (spF (sA l i).1 (sA l (i + 1)).1).data.toList ++ (wrF (sA l (i + 1)).1 r (sA l (i + 1)).2.1).data.toList := by
  rw [txB, if_neg (by omega)]
  rfl
theorem txB_len (r : Int) (l : List Sy) (hz : ∀ s ∈ l, s.2.1.size ≤ 200) : ∀ i, (txB r l i).length ≤ 500 * i
  | 0 => Nat.le_refl _
  | i + 1 => by
    have ih := txB_len r l hz i
    have h1 := wrF_size (sA l i).1 r (sA l i).2.1
    have h2 := (spF_size (sA l (i - 1)).1 (sA l i).1).1
    have h3 : (sA l i).2.1.size ≤ 200 := by
      unfold sA
      rw [List.getD_eq_getElem?_getD]
      cases h : l[i]? with
      | none => exact Nat.zero_le _
      | some s => exact hz s (List.mem_of_getElem? h)
    have e1 : (wrF (sA l i).1 r (sA l i).2.1).data.toList.length = (wrF (sA l i).1 r (sA l i).2.1).size := Array.length_toList
    have e2 : (spF (sA l (i - 1)).1 (sA l i).1).data.toList.length = (spF (sA l (i - 1)).1 (sA l i).1).size := Array.length_toList
    rw [txB]
    split
    · simp only [List.length_append, List.length_nil]; omega
    · simp only [List.length_append]; omega
/-- What Text answers from the ith symbol on. -/
def txR (r : Int) (l : List Sy) (i : Nat) : ByteArray × Int :=
  if h : i < l.length then (if chF (sA l i).1 (sA l i).2.1 = 0 then (if (sA l i).1 = 0 then (⟨(txB r l i).toArray⟩, 0) else txR r l (i + 1)) else (⟨#[]⟩, chF (sA l i).1 (sA l i).2.1)) else (⟨(txB r l i).toArray⟩, 0)
termination_by l.length - i
theorem tx_bad {r : Int} {l : List Sy} {i : Nat} (h : i < l.length) (k : chF (sA l i).1 (sA l i).2.1 ≠ 0) : txR r l i = (⟨#[]⟩, chF (sA l i).1 (sA l i).2.1) := by rw [txR, dif_pos h, if_neg k]
theorem tx_end {r : Int} {l : List Sy} {i : Nat} (h : i < l.length) (k : chF (sA l i).1 (sA l i).2.1 = 0) (e : (sA l i).1 = 0) : txR r l i = (⟨(txB r l i).toArray⟩, 0) := by rw [txR, dif_pos h, if_pos k, if_pos e]
theorem tx_go {r : Int} {l : List Sy} {i : Nat} (h : i < l.length) (k : chF (sA l i).1 (sA l i).2.1 = 0) (e : (sA l i).1 ≠ 0) : txR r l i = txR r l (i + 1) := by rw [txR, dif_pos h, if_pos k, if_neg e]
theorem tx_all {r : Int} {l : List Sy} {i : Nat} (h : l.length ≤ i) : txR r l i = (⟨(txB r l i).toArray⟩, 0) := by rw [txR, dif_neg (by omega)]
end Go.Proofs.YtbnldpcbdeeflaaGreatDoor
