/- What Check answers, said as the reference decides it; strings read back. Condition: the text is not too long. -/
import Derived.Test.YtbnldpcbdeeflaaGreatDoorWh
import Derived.Test.YtbnldpcbdeeflaaGreatDoorRw
namespace Go.Proofs.YtbnldpcbdeeflaaGreatDoor
open Go.ChangeShapes Go.WideShapes Go.ChangeAt Go.RowKit


theorem lit_pr {t : ByteArray} {i : Nat} {a : Int} (h : (litF t i a).2 = 0) : bPr (pk t i) = true := by
  unfold litF at h
  split at h
  · split at h
    · split at h
      · assumption
      · cases h
    · cases h
  · cases h
theorem lit_ok0 {t : ByteArray} {i : Nat} {a : Int} (h : i < t.size) (k : bPr (pk t i) = true) : (litF t i a).2 = 0 := by
  unfold litF
  have hT : bTx (pk t i) = true := by unfold bTx; rw [k]; rfl
  rw [if_pos h, if_pos hT, if_pos k]
theorem quA_pr (t : ByteArray) (a : Int) (i : Nat) : ∀ c ∈ quA t a i, bPr (c.toNat : Int) = true := by
  by_cases hl : (litF t i a).2 = 0
  · have hlt := lit_lt hl
    have hp := lit_pr hl
    have hb := pk_bd t i
    by_cases h34 : pk t i = 34
    · by_cases h35 : pk t (i + 1) = 34
      · have ha : quA t a i = 34 :: quA t a (i + 1 + 1) := by rw [quA, dif_pos hl, if_pos h34, if_pos h35]
        rw [ha]
        intro c hc
        rcases List.mem_cons.1 hc with hc | hc
        · subst hc; decide
        · exact quA_pr t a (i + 1 + 1) c hc
      · have ha : quA t a i = [] := by rw [quA, dif_pos hl, if_pos h34, if_neg h35]
        rw [ha]
        intro c hc; cases hc
    · have ha : quA t a i = cu (pk t i) :: quA t a (i + 1) := by rw [quA, dif_pos hl, if_neg h34]
      rw [ha]
      intro c hc
      rcases List.mem_cons.1 hc with hc | hc
      · subst hc
        rw [cu_nat hb.1 hb.2, Int.toNat_of_nonneg hb.1]
        exact hp
      · exact quA_pr t a (i + 1) c hc
  · have ha : quA t a i = [] := by rw [quA, dif_neg hl]
    rw [ha]
    intro c hc; cases hc
termination_by t.size - i
theorem pk_list {t : ByteArray} {i : Nat} {c : UInt8} (h : t.data.toList[i]? = some c) : pk t i = (c.toNat : Int) ∧ i < t.size := by
  have hl : i < t.data.toList.length := (List.getElem?_eq_some_iff.1 h).1
  rw [Array.length_toList] at hl
  have hlt : i < t.size := hl
  refine ⟨?_, hlt⟩
  rw [pk_in hlt]
  have h2 : t.data.toList[i]? = some t[i] := by rw [Array.getElem?_toList]; exact Array.getElem?_eq_getElem hlt
  rw [h2] at h
  rw [Option.some.inj h]
/-- A string's text reads back. -/
theorem qu_back (t : ByteArray) (a : Int) : ∀ (u pre : List UInt8), t.data.toList = pre ++ dbl u ++ [34] → (∀ c ∈ u, bPr (c.toNat : Int) = true) → quE t a pre.length = (0, 0, t.size - 1) ∧ quA t a pre.length = u := by
  intro u
  induction u with
  | nil =>
    intro pre h _
    have hs : t.size = pre.length + 1 := by
      have := congrArg List.length h
      rw [Array.length_toList] at this
      simp [dbl] at this
      exact this
    have h1 : t.data.toList[pre.length]? = some 34 := by rw [h]; simp [dbl]
    obtain ⟨h2, h3⟩ := pk_list h1
    have h4 : pk t pre.length = 34 := h2
    have h5 : pk t (pre.length + 1) ≠ 34 := by rw [pk_out (by omega)]; decide
    have hl : (litF t pre.length a).2 = 0 := lit_ok0 h3 (by rw [h4]; decide)
    refine ⟨?_, ?_⟩
    · rw [qu_end hl h4 h5, hs]; rfl
    · rw [quA, dif_pos hl, if_pos h4, if_neg h5]
  | cons c u ih =>
    intro pre h hp
    by_cases hc : c = 34
    · subst hc
      have hd : dbl (34 :: u) = [34, 34] ++ dbl u := by unfold dbl; rw [List.flatMap_cons, if_pos rfl]
      rw [hd] at h
      have h1 : t.data.toList[pre.length]? = some 34 := by rw [h]; simp
      have h1' : t.data.toList[pre.length + 1]? = some 34 := by rw [h]; simp
      obtain ⟨h2, h3⟩ := pk_list h1
      obtain ⟨h2', h3'⟩ := pk_list h1'
      have h4 : pk t pre.length = 34 := h2
      have h5 : pk t (pre.length + 1) = 34 := h2'
      have hl : (litF t pre.length a).2 = 0 := lit_ok0 h3 (by rw [h4]; decide)
      obtain ⟨i1, i2⟩ := ih (pre ++ [34, 34]) (by rw [h]; simp) (fun c hc => hp c (List.mem_cons_of_mem _ hc))
      have hn : (pre ++ [34, 34] : List UInt8).length = pre.length + 1 + 1 := by simp
      rw [hn] at i1 i2
      refine ⟨?_, ?_⟩
      · rw [qu_two hl h4 h5]; exact i1
      · rw [quA, dif_pos hl, if_pos h4, if_pos h5, i2]
    · have hd : dbl (c :: u) = [c] ++ dbl u := by unfold dbl; rw [List.flatMap_cons, if_neg hc]
      rw [hd] at h
      have h1 : t.data.toList[pre.length]? = some c := by rw [h]; simp
      obtain ⟨h2, h3⟩ := pk_list h1
      have h4 : pk t pre.length ≠ 34 := by
        intro e
        rw [h2] at e
        apply hc
        have e2 : c.toNat = (34 : UInt8).toNat := by have : (34 : UInt8).toNat = 34 := rfl; omega
        exact UInt8.toNat_inj.1 e2
      have hl : (litF t pre.length a).2 = 0 := lit_ok0 h3 (by rw [h2]; exact hp c List.mem_cons_self)
      obtain ⟨i1, i2⟩ := ih (pre ++ [c]) (by rw [h]; simp) (fun c hc => hp c (List.mem_cons_of_mem _ hc))
      have hn : (pre ++ [c] : List UInt8).length = pre.length + 1 := by simp
      rw [hn] at i1 i2
      have hcu : cu (pk t pre.length) = c := by
        rw [h2]; unfold cu
        rw [Int.toNat_natCast, UInt8.ofNat_toNat]
      refine ⟨?_, ?_⟩
      · rw [qu_one hl h4]; exact i1
      · rw [quA, dif_pos hl, if_neg h4, i2, hcu]


theorem ch_two {k : Int} {x : ByteArray} (h : 0 ≤ k ∧ k ≤ 8) (h0 : chF k x ≠ 0) : chF k x = 2 := by
  unfold chF at h0 ⊢
  rw [if_pos h] at h0 ⊢
  split
  · rfl
  · rename_i s rest hs
    rw [hs] at h0
    simp only at h0
    split
    · rename_i h1; rw [if_pos h1] at h0; exact absurd rfl h0
    · rfl
theorem ch_of {k q : Int} {x : ByteArray} {rest : List Sy} (h : 0 ≤ k ∧ k ≤ 8) (hs : (syF 0 (wrF k 0 x)).2.2 = (k, x, q) :: rest) : chF k x = 0 := by
  unfold chF
  rw [if_pos h, hs]
  exact if_pos ⟨rfl, rfl⟩
/-- The end. -/
theorem ch_end (x : ByteArray) : chF 0 x = if x = ⟨#[]⟩ then 0 else 2 := by
  by_cases hx : x = ⟨#[]⟩
  · rw [if_pos hx]
    subst hx
    exact ch_of (k := 0) (q := 0) (rest := []) (by decide) syF_empty
  · rw [if_neg hx]
    refine ch_two (by decide) (fun h => ?_)
    obtain ⟨q, rest, h1⟩ := ch_first h
    rcases first_kind h1 with h2 | h2
    · exact absurd h2.1 (by show ¬ (1 : Int) ≤ 0; decide)
    · exact hx (congrArg (fun s : Sy => s.2.1) h2)
/-- A symbol that is neither the end nor a string. -/
theorem ch_rest {k : Int} {x : ByteArray} (h0 : k ≠ 0) (h6 : k ≠ 6) (h1 : k = 1 ∨ k = 7 ∨ (k ≠ 1 ∧ k ≠ 7)) (h : chF k x = 0) : syF 0 (wrF k 0 x) = (0, 0, [(k, x, 0), (0, ⟨#[]⟩, ((wrF k 0 x).size : Int))]) := by
  obtain ⟨q, rest, hs⟩ := ch_first h
  refine whole_text hs h0 ?_
  rcases h1 with h1 | h1 | ⟨h1, h7⟩
  · exact Or.inl ⟨h6, by omega, by rw [h1]; rfl⟩
  · refine Or.inr ⟨h1, ?_⟩
    have hw : wrF k 0 x = ⟨#[36]⟩ ++ x ++ ⟨#[36]⟩ := by unfold wrF; rw [if_neg (by omega), if_neg h6, if_pos h1]
    rw [hw, ByteArray.size_append, ByteArray.size_append]
    have : (ByteArray.mk #[36]).size = 1 := rfl
    omega
  · refine Or.inl ⟨h6, h7, ?_⟩
    have hw : wrF k 0 x = x := by unfold wrF; rw [if_neg h1, if_neg h6, if_neg h7]
    rw [hw]
theorem str_list (x : ByteArray) : (wrF 6 0 x).data.toList = [34] ++ dbl x.data.toList ++ [34] := by
  have hw : wrF 6 0 x = ⟨#[34]⟩ ++ dbQ x ++ ⟨#[34]⟩ := by unfold wrF; rw [if_neg (by decide), if_pos rfl]
  rw [hw, ByteArray.data_append, ByteArray.data_append, dbQ_dbl]
  simp
theorem str_size (x : ByteArray) : (wrF 6 0 x).size ≤ 2 * x.size + 2 := wrF_size 6 0 x
theorem str_step (x : ByteArray) : pk (wrF 6 0 x) 0 = 34 ∧ 0 < (wrF 6 0 x).size ∧ sk (wrF 6 0 x) 0 = 0 ∧ stR 0 (wrF 6 0 x) 0 [] = quR 0 (wrF 6 0 x) 0 [] := by
  have h1 : (wrF 6 0 x).data.toList[0]? = some 34 := by rw [str_list]; rfl
  obtain ⟨h2, h3⟩ := pk_list h1
  have h4 : pk (wrF 6 0 x) 0 = 34 := h2
  refine ⟨h4, h3, ru_no (by rw [h4]; decide), ?_⟩
  unfold stR
  rw [if_neg (by rw [h4]; decide), if_pos h4]
theorem quT_quA {t : ByteArray} (h : (quE t ((0 : Nat) : Int) (0 + 1)).2.1 = 0) : quT t (0 + 1) (quE t ((0 : Nat) : Int) (0 + 1)).2.2 = ⟨(quA t ((0 : Nat) : Int) (0 + 1)).toArray⟩ := by
  unfold quT
  rw [qu_ra t ((0 : Nat) : Int) (0 + 1) h]
theorem mk_list (x : ByteArray) : (⟨x.data.toList.toArray⟩ : ByteArray) = x := by rw [Array.toArray_toList]
/-- A string. -/
theorem ch_string (x : ByteArray) (hx : x.size ≤ 20000) : chF 6 x = if (∀ c ∈ x.data.toList, bPr (c.toNat : Int) = true) then 0 else 2 := by
  obtain ⟨h4, h3, hk, hst⟩ := str_step x
  have hz := str_size x
  have hl := str_list x
  have hzz : (wrF 6 0 x).size ≤ 65536 := by omega
  by_cases hp : ∀ c ∈ x.data.toList, bPr (c.toNat : Int) = true
  · rw [if_pos hp]
    obtain ⟨b1, b2⟩ := qu_back (wrF 6 0 x) ((0 : Nat) : Int) x.data.toList [34] hl hp
    have b1' : quE (wrF 6 0 x) ((0 : Nat) : Int) (0 + 1) = (0, 0, (wrF 6 0 x).size - 1) := b1
    have b2' : quA (wrF 6 0 x) ((0 : Nat) : Int) (0 + 1) = x.data.toList := b2
    have hq := quT_quA (t := wrF 6 0 x) (by rw [b1'])
    rw [b1', b2', mk_list] at hq
    have hR : quR 0 (wrF 6 0 x) 0 [] = ⟨0, (((wrF 6 0 x).size - 1 : Nat) : Int) + 1, [] ++ [(6, x, ((0 : Nat) : Int))], 0, 0⟩ := by
      rw [quR_ok b1']
      rw [show quT (wrF 6 0 x) (0 + 1) ((wrF 6 0 x).size - 1) = x from hq]
    have hs : (syF 0 (wrF 6 0 x)).2.2 = (6, x, 0) :: [(0, ⟨#[]⟩, ((wrF 6 0 x).size : Int))] := by
      unfold syF
      rw [if_pos ⟨Int.le_refl _, by decide⟩, if_pos hzz, hk]
      have hc : (stR 0 (wrF 6 0 x) 0 []).c = 0 := by rw [hst, hR]
      have ha : (stR 0 (wrF 6 0 x) 0 []).a = (((wrF 6 0 x).size : Nat) : Int) := by rw [hst, hR]; show (((wrF 6 0 x).size - 1 : Nat) : Int) + 1 = _; omega
      have he : syL 0 (wrF 6 0 x) 0 [] = (0, 0, [(6, x, 0)]) := by
        rw [sy_go h3 hc ha, sy_end (sk_ge _ _), hst, hR]
        rfl
      rw [he]
      rfl
    exact ch_of (by decide) hs
  · rw [if_neg hp]
    refine ch_two (by decide) (fun h => hp ?_)
    obtain ⟨q, rest, hs⟩ := ch_first h
    unfold syF at hs
    rw [if_pos ⟨Int.le_refl _, by decide⟩, if_pos hzz, hk] at hs
    by_cases hc : (syL 0 (wrF 6 0 x) 0 []).2.1 = 0
    · rw [if_pos hc] at hs
      have hs' : (syL 0 (wrF 6 0 x) 0 []).2.2 ++ [(0, ⟨#[]⟩, ((wrF 6 0 x).size : Int))] = (6, x, q) :: rest := hs
      by_cases hq : (quE (wrF 6 0 x) ((0 : Nat) : Int) (0 + 1)).2.1 = 0
      · have hR : quR 0 (wrF 6 0 x) 0 [] = ⟨0, ((quE (wrF 6 0 x) ((0 : Nat) : Int) (0 + 1)).2.2 : Int) + 1, [] ++ [(6, quT (wrF 6 0 x) (0 + 1) (quE (wrF 6 0 x) ((0 : Nat) : Int) (0 + 1)).2.2, ((0 : Nat) : Int))], 0, 0⟩ := by
          unfold quR
          rw [if_pos hq]
        have hc0 : (stR 0 (wrF 6 0 x) 0 []).c = 0 := by rw [hst, hR]
        obtain ⟨m, h1, _⟩ := st_up h3 hc0
        rw [sy_go h3 hc0 h1, hst, hR] at hc hs'
        obtain ⟨e, he⟩ := sy_pre (wrF 6 0 x) (wrF 6 0 x).size _ _ _ (by omega) hc
        rw [he] at hs'
        have hu := (List.cons.inj hs').1
        have hxq : quT (wrF 6 0 x) (0 + 1) (quE (wrF 6 0 x) ((0 : Nat) : Int) (0 + 1)).2.2 = x := congrArg (fun s : Sy => s.2.1) hu
        rw [quT_quA hq] at hxq
        rw [← hxq]
        exact quA_pr (wrF 6 0 x) ((0 : Nat) : Int) (0 + 1)
      · exfalso
        have hc0 : (stR 0 (wrF 6 0 x) 0 []).c ≠ 0 := by
          rw [hst]
          unfold quR
          rw [if_neg hq]
          exact hq
        rw [sy_bad h3 hc0] at hc
        exact hc0 hc
    · rw [if_neg hc] at hs
      cases hs
end Go.Proofs.YtbnldpcbdeeflaaGreatDoor
