/- Which symbols a text has: kinds from 1 to 8, bold words of ASCII; and what follows where Check answers OK. No conditions. -/
import Derived.Test.YtbnldpcbdeeflaaGreatDoorWc
namespace Go.Proofs.YtbnldpcbdeeflaaGreatDoor
open Go.ChangeShapes Go.WideShapes Go.ChangeAt Go.RowKit

theorem upperB_asc : ∀ b : UInt8, b.toNat < 128 → (Lib.upperB b).toNat < 128 := by
  intro b
  have h : ∀ n : Fin 256, n.val < 128 → (Lib.upperB (UInt8.ofNat n.val)).toNat < 128 := by decide +kernel
  intro hb
  have := h ⟨b.toNat, b.toNat_lt⟩ hb
  rwa [UInt8.ofNat_toNat] at this
theorem upW_asc (t : ByteArray) (i : Nat) (hi : i ≤ t.size) : ∀ c ∈ (upW t i (ru bLd bLd0 t i)).data.toList, c.toNat < 128 := by
  intro c hc
  unfold upW at hc
  rw [Lib.toUpperA] at hc
  obtain ⟨b, hb, rfl⟩ := List.mem_map.1 hc
  rw [← Lib.extract_data] at hb
  obtain ⟨j, hj⟩ := List.getElem?_of_mem hb
  exact upperB_asc b (word_ascii t i hi j b hj)
theorem bdF_asc (r : Int) (t : ByteArray) (a : Nat) (ha : a < t.size) : ∀ c ∈ (bdF r t a).1.data.toList, c.toNat < 128 := by
  unfold bdF
  by_cases h0 : r = 0
  · rw [if_pos h0]
    by_cases h1 : bCa (pk t a) = true
    · rw [if_pos h1]
      refine ext_asc t a (ru bCd bCd0 t a) (fun j h2 h3 => ?_) (ru_le bCd bCd0 t a (by omega))
      have h4 := ru_all bCd bCd0 t a j h2 h3
      unfold bCd bCa bDi at h4
      simp only [Bool.or_eq_true, decide_eq_true_eq] at h4
      omega
    · rw [if_neg h1]; intro c hc; cases hc
  · rw [if_neg h0]
    by_cases h2 : r = 2
    · rw [if_pos h2]
      split
      · exact upW_asc t (a + 1) (by omega)
      · intro c hc; cases hc
    · rw [if_neg h2]
      split
      · exact upW_asc t (a + 1) (by omega)
      · intro c hc; cases hc
/-- What a symbol of a text is. -/
def Kd (s : Sy) : Prop := 1 ≤ s.1 ∧ s.1 ≤ 8 ∧ (s.1 = 1 → ∀ c ∈ s.2.1.data.toList, c.toNat < 128)
theorem Kd.other {k a : Int} {x : ByteArray} (h : 2 ≤ k ∧ k ≤ 8) : Kd (k, x, a) := ⟨by show 1 ≤ k; omega, by show k ≤ 8; omega, fun e => absurd (show k = 1 from e) (by omega)⟩
/-- A step adds at most one symbol. -/
def Ad (l l' : List Sy) : Prop := l' = l ∨ ∃ s, Kd s ∧ l' = l ++ [s]
theorem sh_add {r a z k : Int} {x : ByteArray} {l : List Sy} (h : (shR r a z k x l).c = 0) (hk : Kd (k, x, a)) : Ad l (shR r a z k x l).l := by
  unfold shR at h ⊢
  split
  · rename_i h0; rw [if_pos h0] at h; simp at h
  · exact Or.inr ⟨_, hk, rfl⟩
theorem rm_add {r : Int} {t x : ByteArray} {a : Int} {f : Nat} {b : Bool} {l : List Sy} : Ad l (rmR r t x a f b l).l := by
  unfold rmR
  split <;> exact Or.inl rfl
theorem nb_kind (r : Int) (t : ByteArray) (a : Nat) : 3 ≤ (nbF r t a).1 ∧ (nbF r t a).1 ≤ 5 := by
  have hm : ∀ q, 3 ≤ (mnF r t q).1 ∧ (mnF r t q).1 ≤ 5 := by
    intro q
    unfold mnF
    split
    · exact ⟨by show (3 : Int) ≤ 4; decide, by show (4 : Int) ≤ 5; decide⟩
    · exact ⟨by show (3 : Int) ≤ 3; decide, by show (3 : Int) ≤ 5; decide⟩
  unfold nbF
  split
  · unfold xnF
    split
    · exact hm _
    · exact ⟨by show (3 : Int) ≤ 4; decide, by show (4 : Int) ≤ 5; decide⟩
  · exact ⟨by show (3 : Int) ≤ 5; decide, by show (5 : Int) ≤ 5; decide⟩
theorem st_add {r : Int} {t : ByteArray} {a : Nat} {l : List Sy} (ha : a < t.size) (h : (stR r t a l).c = 0) : Ad l (stR r t a l).l := by
  unfold stR at h ⊢
  split
  · exact Or.inl rfl
  rename_i h0; rw [if_neg h0] at h
  split
  · unfold quR
    split
    · exact Or.inr ⟨_, Kd.other (by decide), rfl⟩
    · exact Or.inl rfl
  rename_i h1; rw [if_neg h1] at h
  split
  · unfold fmR
    split
    · exact Or.inr ⟨_, Kd.other (by decide), rfl⟩
    · exact Or.inl rfl
  rename_i h2; rw [if_neg h2] at h
  split
  · unfold nuR
    have hk := nb_kind r t a
    split
    · exact Or.inl rfl
    split
    · exact Or.inl rfl
    · exact Or.inr ⟨_, ⟨by show 1 ≤ (nbF r t a).1; omega, by show (nbF r t a).1 ≤ 8; omega, fun h => absurd (show (nbF r t a).1 = 1 from h) (by omega)⟩, rfl⟩
  rename_i h3; rw [if_neg h3] at h
  split
  · rename_i h4
    rw [if_pos h4] at h
    exact sh_add h (Kd.other (by decide))
  rename_i h4; rw [if_neg h4] at h
  split
  · unfold snR
    split
    · exact Or.inr ⟨_, Kd.other (by decide), rfl⟩
    · exact Or.inl rfl
  · rename_i h5
    rw [if_neg h5] at h
    unfold wdR at h ⊢
    split
    · exact rm_add
    rename_i h6
    rw [if_neg h6] at h
    split
    · exact rm_add
    · rename_i h7
      rw [if_neg h7] at h
      exact sh_add h ⟨by show (1 : Int) ≤ 1; decide, by show (1 : Int) ≤ 8; decide, fun _ => bdF_asc r t a ha⟩
theorem sy_all (t : ByteArray) : ∀ (n a : Nat) (r : Int) (l : List Sy), t.size - a ≤ n → (∀ s ∈ l, Kd s) → ∀ s ∈ (syL r t a l).2.2, Kd s := by
  intro n
  induction n with
  | zero =>
    intro a r l h hl
    rw [sy_end (by omega)]
    exact hl
  | succ n ih =>
    intro a r l h hl
    rcases Nat.lt_or_ge a t.size with ha | ha
    · by_cases hc : (stR r t a l).c = 0
      · obtain ⟨m, h1, h2, h3, h4⟩ := st_up ha hc
        rw [sy_go ha hc h1]
        have hk := sk_ge t m
        refine ih (sk t m) (stR r t a l).r (stR r t a l).l (by omega) ?_
        rcases st_add ha hc with e | ⟨s, hs, e⟩
        · rw [e]; exact hl
        · rw [e]
          intro u hu
          rcases List.mem_append.1 hu with hu | hu
          · exact hl u hu
          · rw [List.mem_singleton.1 hu]; exact hs
      · rw [sy_bad ha hc]
        intro s hs; cases hs
    · rw [sy_end ha]
      exact hl
/-- The first symbol of a text: the end, or one of the kinds. -/
theorem first_kind {r : Int} {t : ByteArray} {s : Sy} {rest : List Sy} (h : (syF r t).2.2 = s :: rest) : Kd s ∨ s = (0, ⟨#[]⟩, (t.size : Int)) := by
  unfold syF at h
  by_cases hr : 0 ≤ r ∧ r ≤ 2
  · rw [if_pos hr] at h
    by_cases hz : t.size ≤ 65536
    · rw [if_pos hz] at h
      by_cases hc : (syL r t (sk t 0) []).2.1 = 0
      · rw [if_pos hc] at h
        have ha := sy_all t t.size (sk t 0) r [] (by omega) (fun s hs => by cases hs)
        have hm : s ∈ (syL r t (sk t 0) []).2.2 ++ [(0, ⟨#[]⟩, (t.size : Int))] := (show (syL r t (sk t 0) []).2.2 ++ [(0, ⟨#[]⟩, (t.size : Int))] = s :: rest from h) ▸ List.mem_cons_self
        rcases List.mem_append.1 hm with hm | hm
        · exact Or.inl (ha s hm)
        · exact Or.inr (List.mem_singleton.1 hm)
      · rw [if_neg hc] at h; cases h
    · rw [if_neg hz] at h; cases h
  · rw [if_neg hr] at h; cases h
theorem ch_first {k : Int} {x : ByteArray} (h : chF k x = 0) : ∃ q rest, (syF 0 (wrF k 0 x)).2.2 = (k, x, q) :: rest := by
  unfold chF at h
  by_cases h0 : 0 ≤ k ∧ k ≤ 8
  · rw [if_pos h0] at h
    split at h
    · cases h
    · rename_i s rest hs
      by_cases h1 : s.1 = k ∧ s.2.1 = x
      · exact ⟨s.2.2, rest, by rw [hs, ← h1.1, ← h1.2]⟩
      · rw [if_neg h1] at h; cases h
  · rw [if_neg h0] at h; cases h
theorem ch_bold {x : ByteArray} (h : chF 1 x = 0) : ∀ c ∈ x.data.toList, c.toNat < 128 := by
  obtain ⟨q, rest, h⟩ := ch_first h
  rcases first_kind h with h | h
  · exact h.2.2 rfl
  · cases congrArg Prod.fst h
theorem syF_empty : (syF 0 ⟨#[]⟩).2.2 = [(0, ⟨#[]⟩, 0)] := by decide +kernel
theorem ch_empty {k : Int} (h : chF k ⟨#[]⟩ = 0) (h6 : k ≠ 6) (h7 : k ≠ 7) : k = 0 := by
  obtain ⟨q, rest, h⟩ := ch_first h
  have hw : wrF k 0 ⟨#[]⟩ = ⟨#[]⟩ := by
    unfold wrF
    rw [if_neg h6, if_neg h7]
    split
    · rfl
    · rfl
  rw [hw, syF_empty] at h
  have := congrArg (fun l => (l.map (·.1)).head?) h
  simpa using this.symm
/-- What is written of a symbol that is no end is not empty. -/
theorem wr_pos {k r : Int} {x : ByteArray} (h : chF k x = 0) (h0 : k ≠ 0) : 0 < (wrF k r x).size := by
  have hx : k ≠ 6 → k ≠ 7 → 0 < x.size := by
    intro h6 h7
    rcases Nat.eq_zero_or_pos x.size with hz | hz
    · exfalso
      have : x = ⟨#[]⟩ := by
        obtain ⟨d⟩ := x
        have hd : d.size = 0 := hz
        rw [Array.size_eq_zero_iff.1 hd]
      subst this
      exact h0 (ch_empty h h6 h7)
    · exact hz
  unfold wrF
  split
  · rename_i h1
    have := hx (by omega) (by omega)
    have hl := toLowerA_size x
    unfold boF
    split
    · rw [ByteArray.size_append, hl]; omega
    split
    · rw [ByteArray.size_append, ByteArray.size_append, hl]; omega
    · exact this
  split
  · rw [ByteArray.size_append, ByteArray.size_append]
    have : (ByteArray.mk #[34]).size = 1 := rfl
    omega
  split
  · rw [ByteArray.size_append, ByteArray.size_append]
    have : (ByteArray.mk #[36]).size = 1 := rfl
    omega
  · rename_i h1 h6 h7
    exact hx h6 h7
end Go.Proofs.YtbnldpcbdeeflaaGreatDoor
/- Doubled quotes, and how long what is written is. No conditions. -/
namespace Go.Proofs.YtbnldpcbdeeflaaGreatDoor
open Go.ChangeShapes Go.WideShapes Go.ChangeAt Go.RowKit

theorem rb_eq (s : List UInt8) : Lib.replaceAll s [34] [34, 34] = Lib.replaceK [34] [34, 34] (Lib.count s [34]) s := by
  unfold Lib.replaceAll Lib.replace
  rw [if_neg (by decide)]
  unfold Lib.replaceNum
  rw [if_pos (Or.inl (by decide))]
theorem rb_nil : Lib.replaceAll [] [34] [34, 34] = [] := by decide
theorem rb_one (c : UInt8) (l : List UInt8) (h : c ≠ 34) : Lib.replaceAll (c :: l) [34] [34, 34] = c :: Lib.replaceAll l [34] [34, 34] := by
  rw [rb_eq, rb_eq]
  have hp : ([34] : List UInt8).isPrefixOf (c :: l) = false := by
    unfold List.isPrefixOf
    rw [show ((34 : UInt8) == c) = false from beq_eq_false_iff_ne.2 (Ne.symm h)]
    rfl
  have hge := Lib.index_ge l [34]
  have hi : Lib.index (c :: l) [34] = if Lib.index l [34] == -1 then -1 else Lib.index l [34] + 1 := by
    rw [Lib.index, hp, if_neg (by decide)]
  by_cases h1 : Lib.index l [34] = -1
  · rw [h1] at hi
    rw [Lib.count_miss h1, Lib.count_miss (s := c :: l) (by rw [hi]; rfl)]
    rfl
  · obtain ⟨i, hn⟩ : ∃ i : Nat, Lib.index l [34] = i := ⟨(Lib.index l [34]).toNat, by omega⟩
    have hi2 : Lib.index (c :: l) [34] = ((i + 1 : Nat) : Int) := by
      rw [hi, if_neg (by rw [beq_iff_eq]; exact h1), hn]
      omega
    have hd : (c :: l).drop (i + 1 + ([34] : List UInt8).length) = l.drop (i + ([34] : List UInt8).length) := rfl
    rw [Lib.count_hit (by decide) hi2, Lib.count_hit (by decide) hn, hd, Nat.add_comm 1, Lib.replaceK_hit _ _ _ _ _ hi2, Lib.replaceK_hit _ _ _ _ _ hn, hd]
    rfl
theorem rb_q (l : List UInt8) : Lib.replaceAll (34 :: l) [34] [34, 34] = 34 :: 34 :: Lib.replaceAll l [34] [34, 34] := by
  rw [rb_eq, rb_eq]
  have hi : Lib.index (34 :: l) [34] = ((0 : Nat) : Int) := by
    rw [Lib.index, if_pos (by simp [List.isPrefixOf])]
    rfl
  rw [Lib.count_hit (by decide) hi, Nat.add_comm 1, Lib.replaceK_hit _ _ _ _ _ hi]
  rfl
theorem rb_map : ∀ l : List UInt8, Lib.replaceAll l [34] [34, 34] = l.flatMap fun c => if c = 34 then [34, 34] else [c]
  | [] => rb_nil
  | c :: l => by
    by_cases h : c = 34
    · subst h
      rw [rb_q, rb_map l, List.flatMap_cons, if_pos rfl]
      rfl
    · rw [rb_one c l h, rb_map l, List.flatMap_cons, if_neg h]
      rfl
theorem rb_len : ∀ l : List UInt8, (Lib.replaceAll l [34] [34, 34]).length ≤ 2 * l.length
  | [] => by rw [rb_nil]; exact Nat.zero_le _
  | c :: l => by
    have := rb_len l
    by_cases h : c = 34
    · subst h
      rw [rb_q]
      simp only [List.length_cons]
      omega
    · rw [rb_one c l h]
      simp only [List.length_cons]
      omega
theorem dbQ_size (x : ByteArray) : (dbQ x).size ≤ 2 * x.size := by
  have h := rb_len x.data.toList
  show (Lib.replaceAll x.data.toList [34] [34, 34]).toArray.size ≤ _
  rw [List.size_toArray]
  rw [Array.length_toList] at h
  exact h
theorem wrF_size (k r : Int) (x : ByteArray) : (wrF k r x).size ≤ 2 * x.size + 2 := by
  have h1 := boF_size r x
  have h2 := dbQ_size x
  have e1 : (ByteArray.mk #[34]).size = 1 := rfl
  have e2 : (ByteArray.mk #[36]).size = 1 := rfl
  unfold wrF
  split
  · omega
  split
  · rw [ByteArray.size_append, ByteArray.size_append]; omega
  split
  · rw [ByteArray.size_append, ByteArray.size_append]; omega
  · omega
theorem spF_size (k k2 : Int) : (spF k k2).size ≤ 4 ∧ 0 < (spF k k2).size := by
  unfold spF
  split
  · exact ⟨by decide, by decide⟩
  · exact ⟨by decide, by decide⟩
/-- The ith symbol. -/
def sA (l : List Sy) (i : Nat) : Sy := l.getD i (0, ⟨#[]⟩, 0)
theorem sA_eq {l : List Sy} {i : Nat} {s : Sy} (h : l[i]? = some s) : sA l i = s := by
  unfold sA
  rw [List.getD_eq_getElem?_getD, h]
  rfl
/-- What is written before the ith symbol. -/
def txB (r : Int) (l : List Sy) : Nat → List UInt8
  | 0 => []
  | i + 1 => (if i = 0 then [] else txB r l i ++ (spF (sA l (i - 1)).1 (sA l i).1).data.toList) ++ (wrF (sA l i).1 r (sA l i).2.1).data.toList
theorem txB_one (r : Int) (l : List Sy) : txB r l 1 = [] ++ (wrF (sA l 0).1 r (sA l 0).2.1).data.toList := rfl
theorem txB_more (r : Int) (l : List Sy) (i : Nat) : txB r l (i + 1 + 1) = txB r l (i + 1) ++ (spF (sA l i).1 (sA l (i + 1)).1).data.toList ++ (wrF (sA l (i + 1)).1 r (sA l (i + 1)).2.1).data.toList := by
  rw [txB, if_neg (by omega)]
  rfl
theorem txB_len (r : Int) (l : List Sy) (hz : ∀ s ∈ l, s.2.1.size ≤ 200) : ∀ i, (txB r l i).length ≤ 500 * i
  | 0 => Nat.le_refl _
  | i + 1 => by
    have ih := txB_len r l hz i
    have h1 := wrF_size (sA l i).1 r (sA l i).2.1
    have h2 := (spF_size (sA l (i - 1)).1 (sA l i).1).1
    have h3 : (sA l i).2.1.size ≤ 200 := by
      unfold sA
      rw [List.getD_eq_getElem?_getD]
      cases h : l[i]? with
      | none => exact Nat.zero_le _
      | some s => exact hz s (List.mem_of_getElem? h)
    have e1 : (wrF (sA l i).1 r (sA l i).2.1).data.toList.length = (wrF (sA l i).1 r (sA l i).2.1).size := Array.length_toList
    have e2 : (spF (sA l (i - 1)).1 (sA l i).1).data.toList.length = (spF (sA l (i - 1)).1 (sA l i).1).size := Array.length_toList
    rw [txB]
    split
    · simp only [List.length_append, List.length_nil]; omega
    · simp only [List.length_append]; omega
/-- What Text answers from the ith symbol on. -/
def txR (r : Int) (l : List Sy) (i : Nat) : ByteArray × Int :=
  if h : i < l.length then (if chF (sA l i).1 (sA l i).2.1 = 0 then (if (sA l i).1 = 0 then (⟨(txB r l i).toArray⟩, 0) else txR r l (i + 1)) else (⟨#[]⟩, chF (sA l i).1 (sA l i).2.1)) else (⟨(txB r l i).toArray⟩, 0)
termination_by l.length - i
theorem tx_bad {r : Int} {l : List Sy} {i : Nat} (h : i < l.length) (k : chF (sA l i).1 (sA l i).2.1 ≠ 0) : txR r l i = (⟨#[]⟩, chF (sA l i).1 (sA l i).2.1) := by rw [txR, dif_pos h, if_neg k]
theorem tx_end {r : Int} {l : List Sy} {i : Nat} (h : i < l.length) (k : chF (sA l i).1 (sA l i).2.1 = 0) (e : (sA l i).1 = 0) : txR r l i = (⟨(txB r l i).toArray⟩, 0) := by rw [txR, dif_pos h, if_pos k, if_pos e]
theorem tx_go {r : Int} {l : List Sy} {i : Nat} (h : i < l.length) (k : chF (sA l i).1 (sA l i).2.1 = 0) (e : (sA l i).1 ≠ 0) : txR r l i = txR r l (i + 1) := by rw [txR, dif_pos h, if_pos k, if_neg e]
theorem tx_all {r : Int} {l : List Sy} {i : Nat} (h : l.length ≤ i) : txR r l i = (⟨(txB r l i).toArray⟩, 0) := by rw [txR, dif_neg (by omega)]
end Go.Proofs.YtbnldpcbdeeflaaGreatDoor
