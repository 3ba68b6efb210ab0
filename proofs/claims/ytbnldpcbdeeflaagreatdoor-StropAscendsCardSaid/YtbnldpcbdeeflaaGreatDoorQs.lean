/- A string of printable characters, written with doubled quotes, reads back; what reads back is printable. No conditions. -/
import Derived.Test.YtbnldpcbdeeflaaGreatDoorWh
import Derived.Test.YtbnldpcbdeeflaaGreatDoorRw
namespace Go.Proofs.YtbnldpcbdeeflaaGreatDoor
open Go.ChangeShapes Go.WideShapes Go.ChangeAt Go.RowKit

theorem lit_pr {t : ByteArray} {i : Nat} {a : Int} (h : (litF t i a).2 = 0) : bPr (pk t i) = true := by
  unfold litF at h
  split at h
  · split at h
    · split at h
      · assumption
      · cases h
    · cases h
  · cases h
theorem lit_ok0 {t : ByteArray} {i : Nat} {a : Int} (h : i < t.size) (k : bPr (pk t i) = true) : (litF t i a).2 = 0 := by
  unfold litF
  have hT : bTx (pk t i) = true := by unfold bTx; rw [k]; rfl
  rw [if_pos h, if_pos hT, if_pos k]
theorem quA_pr (t : ByteArray) (a : Int) (i : Nat) : ∀ c ∈ quA t a i, bPr (c.toNat : Int) = true := by
  by_cases hl : (litF t i a).2 = 0
  · have hlt := lit_lt hl
    have hp := lit_pr hl
    have hb := pk_bd t i
    by_cases h34 : pk t i = 34
    · by_cases h35 : pk t (i + 1) = 34
      · have ha : quA t a i = 34 :: quA t a (i + 1 + 1) := by rw [quA, dif_pos hl, if_pos h34, if_pos h35]
        rw [ha]
        intro c hc
        rcases List.mem_cons.1 hc with hc | hc
        · subst hc; decide
        · exact quA_pr t a (i + 1 + 1) c hc
      · have ha : quA t a i = [] := by rw [quA, dif_pos hl, if_pos h34, if_neg h35]
        rw [ha]
        intro c hc; cases hc
    · have ha : quA t a i = cu (pk t i) :: quA t a (i + 1) := by rw [quA, dif_pos hl, if_neg h34]
      rw [ha]
      intro c hc
      rcases List.mem_cons.1 hc with hc | hc
      · subst hc
        rw [cu_nat hb.1 hb.2, Int.toNat_of_nonneg hb.1]
        exact hp
      · exact quA_pr t a (i + 1) c hc
  · have ha : quA t a i = [] := by rw [quA, dif_neg hl]
    rw [ha]
    intro c hc; cases hc
termination_by t.size - i
theorem pk_list {t : ByteArray} {i : Nat} {c : UInt8} (h : t.data.toList[i]? = some c) : pk t i = (c.toNat : Int) ∧ i < t.size := by
  have hl : i < t.data.toList.length := (List.getElem?_eq_some_iff.1 h).1
  rw [Array.length_toList] at hl
  have hlt : i < t.size := hl
  refine ⟨?_, hlt⟩
  rw [pk_in hlt]
  have h2 : t.data.toList[i]? = some t[i] := by rw [Array.getElem?_toList]; exact Array.getElem?_eq_getElem hlt
  rw [h2] at h
  rw [Option.some.inj h]
/-- A string's text reads back. -/
theorem qu_back (t : ByteArray) (a : Int) : ∀ (u pre : List UInt8), t.data.toList = pre ++ dbl u ++ [34] → (∀ c ∈ u, bPr (c.toNat : Int) = true) → quE t a pre.length = (0, 0, t.size - 1) ∧ quA t a pre.length = u := by
  intro u
  induction u with
  | nil =>
    intro pre h _
    have hs : t.size = pre.length + 1 := by
      have := congrArg List.length h
      rw [Array.length_toList] at this
      simp [dbl] at this
      exact this
    have h1 : t.data.toList[pre.length]? = some 34 := by rw [h]; simp [dbl]
    obtain ⟨h2, h3⟩ := pk_list h1
    have h4 : pk t pre.length = 34 := h2
    have h5 : pk t (pre.length + 1) ≠ 34 := by rw [pk_out (by omega)]; decide
    have hl : (litF t pre.length a).2 = 0 := lit_ok0 h3 (by rw [h4]; decide)
    refine ⟨?_, ?_⟩
    · rw [qu_end hl h4 h5, hs]; rfl
    · rw [quA, dif_pos hl, if_pos h4, if_neg h5]
  | cons c u ih =>
    intro pre h hp
    by_cases hc : c = 34
    · subst hc
      have hd : dbl (34 :: u) = [34, 34] ++ dbl u := by unfold dbl; rw [List.flatMap_cons, if_pos rfl]
      rw [hd] at h
      have h1 : t.data.toList[pre.length]? = some 34 := by rw [h]; simp
      have h1' : t.data.toList[pre.length + 1]? = some 34 := by rw [h]; simp
      obtain ⟨h2, h3⟩ := pk_list h1
      obtain ⟨h2', h3'⟩ := pk_list h1'
      have h4 : pk t pre.length = 34 := h2
      have h5 : pk t (pre.length + 1) = 34 := h2'
      have hl : (litF t pre.length a).2 = 0 := lit_ok0 h3 (by rw [h4]; decide)
      obtain ⟨i1, i2⟩ := ih (pre ++ [34, 34]) (by rw [h]; simp) (fun c hc => hp c (List.mem_cons_of_mem _ hc))
      have hn : (pre ++ [34, 34] : List UInt8).length = pre.length + 1 + 1 := by simp
      rw [hn] at i1 i2
      refine ⟨?_, ?_⟩
      · rw [qu_two hl h4 h5]; exact i1
      · rw [quA, dif_pos hl, if_pos h4, if_pos h5, i2]
    · have hd : dbl (c :: u) = [c] ++ dbl u := by unfold dbl; rw [List.flatMap_cons, if_neg hc]
      rw [hd] at h
      have h1 : t.data.toList[pre.length]? = some c := by rw [h]; simp
      obtain ⟨h2, h3⟩ := pk_list h1
      have h4 : pk t pre.length ≠ 34 := by
        intro e
        rw [h2] at e
        apply hc
        have e2 : c.toNat = (34 : UInt8).toNat := by have : (34 : UInt8).toNat = 34 := rfl; omega
        exact UInt8.toNat_inj.1 e2
      have hl : (litF t pre.length a).2 = 0 := lit_ok0 h3 (by rw [h2]; exact hp c List.mem_cons_self)
      obtain ⟨i1, i2⟩ := ih (pre ++ [c]) (by rw [h]; simp) (fun c hc => hp c (List.mem_cons_of_mem _ hc))
      have hn : (pre ++ [c] : List UInt8).length = pre.length + 1 := by simp
      rw [hn] at i1 i2
      have hcu : cu (pk t pre.length) = c := by
        rw [h2]; unfold cu
        rw [Int.toNat_natCast, UInt8.ofNat_toNat]
      refine ⟨?_, ?_⟩
      · rw [qu_one hl h4]; exact i1
      · rw [quA, dif_pos hl, if_neg h4, i2, hcu]
end Go.Proofs.YtbnldpcbdeeflaaGreatDoor
