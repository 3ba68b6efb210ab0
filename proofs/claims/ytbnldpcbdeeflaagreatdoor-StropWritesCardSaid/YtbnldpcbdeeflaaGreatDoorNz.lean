/- What the reference's next symbol is, in the program's words. No condition. -/
import Derived.Test.YtbnldpcbdeeflaaGreatDoorGo
import Derived.Test.YtbnldpcbdeeflaaGreatDoorRd
namespace Go.Proofs.YtbnldpcbdeeflaaGreatDoor
open Go.ChangeShapes Go.WideShapes Go.ChangeAt Go.RowKit

theorem ex_ne {t : ByteArray} {a e : Nat} (h : a < e) (he : e ≤ t.size) : t.extract a e ≠ ⟨#[]⟩ := by
  intro h2
  have h3 := congrArg ByteArray.size h2
  rw [ByteArray.size_extract] at h3
  have : (⟨#[]⟩ : ByteArray).size = 0 := rfl
  omega
theorem up_ne {t : ByteArray} {a e : Nat} (h : a < e) (he : e ≤ t.size) : upW t a e ≠ ⟨#[]⟩ := by
  intro h2
  have h3 := congrArg ByteArray.size h2
  have h4 : (upW t a e).size = e - a := by
    unfold upW
    show (Lib.toUpperA _).toArray.size = _
    rw [List.size_toArray]
    unfold Lib.toUpperA
    rw [List.length_map, List.length_take, List.length_drop, Array.length_toList]
    have : t.data.size = t.size := rfl
    omega
  have : (⟨#[]⟩ : ByteArray).size = 0 := rfl
  omega
/-- Either no bold word begins, or one, at what it can begin with. -/
theorem bd_cases (r : Int) (t : ByteArray) (a : Nat) (ha : a < t.size) : bdF r t a = (⟨#[]⟩, a) ∨ ((bdF r t a).1 ≠ ⟨#[]⟩ ∧ ((r = 0 ∧ bCa (pk t a) = true) ∨ (r ≠ 0 ∧ (pk t a = 46 ∨ pk t a = 39) ∧ bLe (pk t (a + 1)) = true))) := by
  unfold bdF
  by_cases h0 : r = 0
  · rw [if_pos h0]
    by_cases h1 : bCa (pk t a) = true
    · rw [if_pos h1]
      exact Or.inr ⟨ex_ne (ru_gt bCd bCd0 t a (by unfold bCd; rw [h1, Bool.true_or])) (ru_le bCd bCd0 t a (by omega)), Or.inl ⟨h0, h1⟩⟩
    · rw [if_neg h1]; exact Or.inl rfl
  · rw [if_neg h0]
    have hx : bLe (pk t (a + 1)) = true → a + 1 < ru bLd bLd0 t (a + 1) ∧ ru bLd bLd0 t (a + 1) ≤ t.size := fun h => ⟨ru_gt bLd bLd0 t (a + 1) (by unfold bLd; rw [h, Bool.true_or]), ru_le bLd bLd0 t (a + 1) (by omega)⟩
    by_cases h2 : r = 2
    · rw [if_pos h2]
      by_cases h3 : pk t a = 39 ∧ bLe (pk t (a + 1)) = true ∧ pk t (ru bLd bLd0 t (a + 1)) = 39
      · rw [if_pos h3]
        have := hx h3.2.1
        exact Or.inr ⟨up_ne this.1 this.2, Or.inr ⟨h0, Or.inr h3.1, h3.2.1⟩⟩
      · rw [if_neg h3]; exact Or.inl rfl
    · rw [if_neg h2]
      by_cases h3 : pk t a = 46 ∧ bLe (pk t (a + 1)) = true
      · rw [if_pos h3]
        have := hx h3.2
        exact Or.inr ⟨up_ne this.1 this.2, Or.inr ⟨h0, Or.inl h3.1, h3.2⟩⟩
      · rw [if_neg h3]; exact Or.inl rfl
theorem drop_pk0 {t : ByteArray} {i : Nat} (h : i < t.size) : t.data.toList.drop i = cu (pk t i) :: t.data.toList.drop (i + 1) := by
  rw [cu_in h, List.drop_eq_getElem_cons (by rw [Array.length_toList]; exact h)]
  rfl
theorem sg_head {s : List UInt8} (h : s ∈ sgs) : ∃ c l, s = c :: l ∧ bPr (c.toNat : Int) = true := by
  have : ∀ s ∈ sgs, (match s with | c :: _ => bPr (c.toNat : Int) | [] => false) = true := by decide
  have := this s h
  match s, this with
  | c :: l, h => exact ⟨c, l, rfl, h⟩
theorem fd_tx {t : ByteArray} {a : Nat} {s : List UInt8} (ha : a < t.size) (h : fdS (t.data.toList.drop a) 0 = some s) : bPr (pk t a) = true := by
  unfold fdS at h
  have h1 := List.mem_of_find?_eq_some h
  have h2 := List.find?_some h
  simp only [List.drop_zero] at h1
  obtain ⟨c, l, rfl, hc⟩ := sg_head h1
  have hp := List.isPrefixOf_iff_prefix.mp h2
  rw [drop_pk0 ha] at hp
  have := (List.cons_prefix_cons.mp hp).1
  rw [this] at hc
  have hb := pk_bd t a
  rw [cu_nat hb.1 hb.2, Int.toNat_of_nonneg hb.1] at hc
  exact hc
/-- What the reference's step leaves. -/
def nxR (r : Int) (t : ByteArray) (a : Nat) (l : List Sy) : Rs := if bBl (pk t a) = true then ⟨r, (a : Int) + 1, l, 0, 0⟩ else stR r t a l
theorem ch_eq {r : Int} {t : ByteArray} {a : Nat} : bSm (ch r t a) = ltB r (pk t a) := by
  cases h : ltB r (pk t a)
  · exact no_ch h
  · show bSm (chB r (pk t a)) = true
    rw [lo_ch h]
    unfold ltB at h
    unfold loA
    cases hc : bCa (pk t a)
    · rw [hc, Bool.and_false, Bool.or_false] at h
      rw [if_neg (by decide)]; exact h
    · have h1 : 65 ≤ pk t a ∧ pk t a ≤ 90 := of_decide_eq_true hc
      rw [if_pos rfl]
      exact decide_eq_true (by omega)
theorem lt_vals {r c : Int} (h : ltB r c = true) : (97 ≤ c ∧ c ≤ 122) ∨ (65 ≤ c ∧ c ≤ 90 ∧ r ≠ 0) := by
  unfold ltB at h
  rw [Bool.or_eq_true, Bool.and_eq_true] at h
  rcases h with h | ⟨h, k⟩
  · exact Or.inl (of_decide_eq_true h)
  · have := of_decide_eq_true h
    have k2 : 65 ≤ c ∧ c ≤ 90 := of_decide_eq_true k
    exact Or.inr ⟨k2.1, k2.2, this⟩
theorem st_num {r : Int} {t : ByteArray} {a : Nat} {l : List Sy} (h : bDi (pk t a) = true ∨ pk t a = 46 ∧ bDi (pk t (a + 1)) = true) : stR r t a l = nuR r t a l := by
  have hv : (48 ≤ pk t a ∧ pk t a ≤ 57) ∨ pk t a = 46 := by
    rcases h with h | h
    · exact Or.inl (of_decide_eq_true h)
    · exact Or.inr h.1
  unfold stR
  rw [if_neg (by omega), if_neg (by omega), if_neg (by omega), if_pos h]
theorem bd_num {r : Int} {t : ByteArray} {a : Nat} (ha : a < t.size) (h : bDi (pk t a) = true ∨ pk t a = 46 ∧ bDi (pk t (a + 1)) = true) : bdF r t a = (⟨#[]⟩, a) := by
  rcases bd_cases r t a ha with h1 | ⟨_, h1⟩
  · exact h1
  · exfalso
    rcases h1 with ⟨_, h1⟩ | ⟨_, h1, h2⟩
    · have h3 : 65 ≤ pk t a ∧ pk t a ≤ 90 := of_decide_eq_true h1
      rcases h with h | h
      · have h4 : 48 ≤ pk t a ∧ pk t a ≤ 57 := of_decide_eq_true h
        omega
      · omega
    · rcases h with h | ⟨h, k⟩
      · have h4 : 48 ≤ pk t a ∧ pk t a ≤ 57 := of_decide_eq_true h
        omega
      · have h4 : 48 ≤ pk t (a + 1) ∧ pk t (a + 1) ≤ 57 := of_decide_eq_true k
        unfold bLe at h2
        rw [show bSm (pk t (a + 1)) = false from decide_eq_false (by omega), show bCa (pk t (a + 1)) = false from decide_eq_false (by omega)] at h2
        cases h2
theorem st_word {r : Int} {t : ByteArray} {a : Nat} {l : List Sy} (h : (bdF r t a).1 ≠ ⟨#[]⟩) (ha : a < t.size) : stR r t a l = wdR r t (bdF r t a).1 (a : Int) (bdF r t a).2 l := by
  rcases bd_cases r t a ha with h1 | ⟨_, h1⟩
  · rw [h1] at h; exact absurd rfl h
  · have hv : (65 ≤ pk t a ∧ pk t a ≤ 90) ∨ pk t a = 46 ∨ pk t a = 39 := by
      rcases h1 with ⟨_, h1⟩ | ⟨_, h1, _⟩
      · exact Or.inl (of_decide_eq_true h1)
      · exact Or.inr h1
    have hn : ¬ (bDi (pk t a) = true ∨ pk t a = 46 ∧ bDi (pk t (a + 1)) = true) := by
      intro h2
      have := bd_num (r := r) ha h2
      rw [this] at h
      exact absurd rfl h
    have hs : bSm (ch r t a) = false := by
      rw [ch_eq]
      cases hl : ltB r (pk t a)
      · rfl
      · exfalso
        have := lt_vals hl
        rcases h1 with ⟨h0, h1⟩ | ⟨_, h1, _⟩
        · have h3 : 65 ≤ pk t a ∧ pk t a ≤ 90 := of_decide_eq_true h1
          omega
        · omega
    unfold stR
    rw [if_neg (by omega), if_neg (by omega), if_neg (by omega), if_neg hn, if_neg (by rw [hs]; decide), if_neg h]
theorem st_tag {r : Int} {t : ByteArray} {a : Nat} {l : List Sy} (h : ltB r (pk t a) = true) : stR r t a l = shR r (a : Int) ((rnF bSd bSd0 r t a).2 : Int) 2 ⟨(rnF bSd bSd0 r t a).1.toArray⟩ l := by
  have hv := lt_vals h
  have hn : ¬ (bDi (pk t a) = true ∨ pk t a = 46 ∧ bDi (pk t (a + 1)) = true) := by
    intro h2
    rcases h2 with h2 | h2
    · have h4 : 48 ≤ pk t a ∧ pk t a ≤ 57 := of_decide_eq_true h2
      omega
    · omega
  unfold stR
  rw [if_neg (by omega), if_neg (by omega), if_neg (by omega), if_neg hn, if_pos (by rw [ch_eq]; exact h)]
theorem bd_tag {r : Int} {t : ByteArray} {a : Nat} (ha : a < t.size) (h : ltB r (pk t a) = true) : bdF r t a = (⟨#[]⟩, a) := by
  have hv := lt_vals h
  rcases bd_cases r t a ha with h1 | ⟨_, h1⟩
  · exact h1
  · exfalso
    rcases h1 with ⟨h0, h1⟩ | ⟨_, h1, h2⟩
    · have h3 : 65 ≤ pk t a ∧ pk t a ≤ 90 := of_decide_eq_true h1
      omega
    · omega
theorem bd_other {r : Int} {t : ByteArray} {a : Nat} (ha : a < t.size) (h : pk t a = 34 ∨ pk t a = 36) : bdF r t a = (⟨#[]⟩, a) := by
  rcases bd_cases r t a ha with h1 | ⟨_, h1⟩
  · exact h1
  · exfalso
    rcases h1 with ⟨h0, h1⟩ | ⟨_, h1, h2⟩
    · have h3 : 65 ≤ pk t a ∧ pk t a ≤ 90 := of_decide_eq_true h1
      omega
    · omega
theorem st_sign {r : Int} {t : ByteArray} {a : Nat} {l : List Sy} (hb : bdF r t a = (⟨#[]⟩, a)) (n35 : pk t a ≠ 35) (n34 : pk t a ≠ 34) (n36 : pk t a ≠ 36) (hd : ¬ (bDi (pk t a) = true ∨ pk t a = 46 ∧ bDi (pk t (a + 1)) = true)) (hl : ltB r (pk t a) = false) : stR r t a l = snR r t a l := by
  unfold stR
  rw [if_neg n35, if_neg n34, if_neg n36, if_neg hd, if_neg (by rw [ch_eq, hl]; decide), if_pos (by rw [hb])]
theorem st_form {r : Int} {t : ByteArray} {a : Nat} {l : List Sy} (ha : a < t.size) (h : bTx (pk t a) = false) : stR r t a l = ⟨r, a, l, a, 2⟩ := by
  have hb := pk_bd t a
  have hnp : bPr (pk t a) = false := by unfold bTx at h; rw [Bool.or_eq_false_iff] at h; exact h.1
  have hv : ¬ (32 ≤ pk t a ∧ pk t a ≤ 126) := of_decide_eq_false hnp
  have hbn : bdF r t a = (⟨#[]⟩, a) := by
    rcases bd_cases r t a ha with h1 | ⟨_, h1⟩
    · exact h1
    · exfalso
      rcases h1 with ⟨h0, h1⟩ | ⟨_, h1, h2⟩
      · have h3 : 65 ≤ pk t a ∧ pk t a ≤ 90 := of_decide_eq_true h1
        omega
      · omega
  have hd : ¬ (bDi (pk t a) = true ∨ pk t a = 46 ∧ bDi (pk t (a + 1)) = true) := by
    intro h2
    rcases h2 with h2 | h2
    · have h4 : 48 ≤ pk t a ∧ pk t a ≤ 57 := of_decide_eq_true h2
      omega
    · omega
  have hl : ltB r (pk t a) = false := by
    cases hl : ltB r (pk t a)
    · rfl
    · have := lt_vals hl
      omega
  rw [st_sign hbn (by omega) (by omega) (by omega) hd hl]
  unfold snR
  cases hf : fdS (t.data.toList.drop a) 0 with
  | none => simp only; rw [h, if_neg (by decide)]
  | some s =>
    have := fd_tx ha hf
    rw [hnp] at this
    cases this
end Go.Proofs.YtbnldpcbdeeflaaGreatDoor
