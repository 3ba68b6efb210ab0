/- A step's symbol is no longer than what the step goes over. No conditions. -/
import Derived.Test.YtbnldpcbdeeflaaGreatDoorGMt
namespace Go.Proofs.YtbnldpcbdeeflaaGreatDoor
open Go.ChangeShapes Go.WideShapes Go.ChangeAt Go.RowKit

theorem size_of (l : List UInt8) : (ByteArray.mk l.toArray).size = l.length := List.size_toArray
theorem rn_fit (f : Int → Bool) (hf : f 0 = false) (r : Int) (t : ByteArray) (i e : Nat) (he : e ≤ i) : (rn f hf r t i e).1.length + e ≤ (rn f hf r t i e).2 := by
  rcases Bool.eq_false_or_eq_true (f (ch r t i)) with h | h
  · have hlt := ch_lt hf h
    rw [rn_yes h]
    have h1 := sk_ge t (i + 1)
    have h2 := rn_fit f hf r t (sk t (i + 1)) (i + 1) h1
    simp only [List.length_cons]
    omega
  · rw [rn_no h]
    simp
termination_by t.size - i
decreasing_by
  have := sk_ge t (i + 1)
  omega
theorem rnF_fit (f : Int → Bool) (hf : f 0 = false) (r : Int) (t : ByteArray) (a : Nat) : (rnF f hf r t a).1.length + a ≤ (rnF f hf r t a).2 := rn_fit f hf r t _ a (sk_ge t a)
theorem rdF_fit (r : Int) (t : ByteArray) (a : Nat) (h : (rdF r t a).1 ≠ []) : (rdF r t a).1.length + 1 + a ≤ (rdF r t a).2 := by
  unfold rdF at h ⊢
  split
  · have h1 := sk_ge t a
    have h2 := rnF_fit bHx bHx0 r t (sk t a + 1)
    omega
  · rename_i h0
    rw [if_neg h0] at h
    exact absurd rfl h
theorem exS_fit (t : ByteArray) (a : Nat) (pre : ByteArray) (q : List UInt8 × Nat) (h : pre.size + a + q.1.length ≤ q.2) : (exS t a pre q).1.size + a ≤ (exS t a pre q).2 := by
  unfold exS
  split
  · show (ByteArray.mk #[]).size + a ≤ a
    have : (ByteArray.mk #[]).size = 0 := rfl
    omega
  · show (pre ++ ⟨q.1.toArray⟩ : ByteArray).size + a ≤ q.2
    rw [ByteArray.size_append, size_of q.1]
    omega
theorem exF_fit (r : Int) (t : ByteArray) (a : Nat) : (exF r t a).1.size + a ≤ (exF r t a).2 := by
  have e1 : (ByteArray.mk #[101]).size = 1 := rfl
  unfold exF
  split
  · have h2 := sk_ge t a
    have h3 := sk_ge t (sk t a + 1)
    split
    · refine exS_fit t a _ _ ?_
      have h4 := rnF_fit bDi bDi0 r t (sk t (sk t a + 1) + 1)
      rw [ByteArray.size_append, ByteArray.size_extract]
      omega
    · refine exS_fit t a _ _ ?_
      have h4 := rnF_fit bDi bDi0 r t (sk t (sk t a + 1))
      omega
  · show (ByteArray.mk #[]).size + a ≤ a
    have : (ByteArray.mk #[]).size = 0 := rfl
    omega
theorem nbF_fit (r : Int) (t : ByteArray) (a : Nat) : (nbF r t a).2.1.size + a ≤ (nbF r t a).2.2 := by
  have e1 : (ByteArray.mk #[46]).size = 1 := rfl
  have e2 : (ByteArray.mk #[114]).size = 1 := rfl
  have hq := rnF_fit bDi bDi0 r t a
  have hm : (mnF r t (rnF bDi bDi0 r t a)).2.1.size + a ≤ (mnF r t (rnF bDi bDi0 r t a)).2.2 := by
    unfold mnF
    split
    · have h1 := sk_ge t (rnF bDi bDi0 r t a).2
      have h2 := rnF_fit bDi bDi0 r t (sk t (rnF bDi bDi0 r t a).2 + 1)
      simp only
      rw [ByteArray.size_append, ByteArray.size_append, size_of (rnF bDi bDi0 r t a).1, size_of (rnF bDi bDi0 r t (sk t (rnF bDi bDi0 r t a).2 + 1)).1]
      omega
    · simp only
      rw [size_of (rnF bDi bDi0 r t a).1]
      exact hq
  unfold nbF
  split
  · unfold xnF
    have h3 := exF_fit r t (mnF r t (rnF bDi bDi0 r t a)).2.2
    split
    · exact hm
    · simp only
      rw [ByteArray.size_append]
      omega
  · rename_i h
    have h4 := rdF_fit r t (rnF bDi bDi0 r t a).2 h
    simp only
    rw [ByteArray.size_append, ByteArray.size_append, size_of (rnF bDi bDi0 r t a).1, size_of (rdF r t (rnF bDi bDi0 r t a).2).1]
    omega
theorem upW_size (t : ByteArray) (i j : Nat) : (upW t i j).size ≤ j - i := by
  unfold upW Lib.toUpperA
  rw [size_of, List.length_map, List.length_take]
  omega
theorem bdF_fit (r : Int) (t : ByteArray) (i : Nat) (hi : i < t.size) : (bdF r t i).1.size + i ≤ (bdF r t i).2 := by
  have e0 : (ByteArray.mk #[]).size = 0 := rfl
  have h1 := ru_ge bCd bCd0 t i
  have h3 := ru_ge bLd bLd0 t (i + 1)
  have h5 := upW_size t (i + 1) (ru bLd bLd0 t (i + 1))
  unfold bdF
  split
  · split
    · simp only
      rw [ByteArray.size_extract]
      omega
    · simp only; omega
  · split
    · split
      · simp only; omega
      · simp only; omega
    · split
      · simp only; omega
      · simp only; omega
/-- A step that adds a symbol adds one that begins at the step's place and is no longer than what the step goes over. -/
theorem st_fit {r : Int} {t : ByteArray} {a : Nat} {l : List Sy} {s : Sy} (ha : a < t.size) (h : (stR r t a l).c = 0) (hs : (stR r t a l).l = l ++ [s]) : s.2.2 = (a : Int) ∧ (s.1 ≠ 6 → s.1 ≠ 7 → (s.2.1.size : Int) + a ≤ (stR r t a l).a) ∧ (s.1 = 7 → (s.2.1.size : Int) + 2 + a ≤ (stR r t a l).a) := by
  have no : ∀ {u : List Sy}, u = u ++ [s] → False := fun {u} e => by
    have := congrArg List.length e
    simp at this
  have one : ∀ {u : Sy}, l ++ [u] = l ++ [s] → u = s := fun {u} e => by
    have := List.append_cancel_left e
    exact List.cons.inj this |>.1
  have sh : ∀ {z k : Int} {x : ByteArray}, (shR r (a : Int) z k x l).c = 0 → (shR r (a : Int) z k x l).l = l ++ [s] → k ≠ 7 → (x.size : Int) + a ≤ z → s.2.2 = (a : Int) ∧ (s.1 ≠ 6 → s.1 ≠ 7 → (s.2.1.size : Int) + a ≤ (shR r (a : Int) z k x l).a) ∧ (s.1 = 7 → (s.2.1.size : Int) + 2 + a ≤ (shR r (a : Int) z k x l).a) := by
    intro z k x h hs hk hz
    unfold shR at h hs ⊢
    split
    · rename_i h0; rw [if_pos h0] at h; simp at h
    · rename_i h0
      rw [if_neg h0] at hs
      have e := one hs
      subst e
      exact ⟨rfl, fun _ _ => hz, fun e => absurd e hk⟩
  unfold stR at h hs ⊢
  split
  · rename_i h0; rw [if_pos h0] at hs; exact (no hs).elim
  rename_i h0; rw [if_neg h0] at h hs
  split
  · rename_i h1; rw [if_pos h1] at hs
    unfold quR at hs ⊢
    split
    · rename_i h2
      rw [if_pos h2] at hs
      have e := one hs
      subst e
      exact ⟨rfl, fun e => absurd rfl e, fun e => absurd e (by show ¬ (6 : Int) = 7; decide)⟩
    · rename_i h2; rw [if_neg h2] at hs; exact (no hs).elim
  rename_i h1; rw [if_neg h1] at h hs
  split
  · rename_i h2; rw [if_pos h2] at h hs
    unfold fmR at h hs ⊢
    split
    · rename_i h3
      rw [if_pos h3] at hs
      have e := one hs
      subst e
      have h4 := fm_up t (a : Int) (a + 1) false h3
      refine ⟨rfl, fun _ e => absurd rfl e, fun _ => ?_⟩
      show ((t.extract (a + 1) (fmE t (a : Int) (a + 1) false).2.2).size : Int) + 2 + a ≤ ((fmE t (a : Int) (a + 1) false).2.2 : Int) + 1
      rw [ByteArray.size_extract]
      omega
    · rename_i h3; rw [if_neg h3] at hs; exact (no hs).elim
  rename_i h2; rw [if_neg h2] at h hs
  split
  · rename_i h3; rw [if_pos h3] at h hs
    have h4 := nbF_fit r t a
    have h5 := nb_kind r t a
    unfold nuR at h hs ⊢
    split
    · rename_i h6; rw [if_pos h6] at hs; exact (no hs).elim
    rename_i h6; rw [if_neg h6] at hs
    split
    · rename_i h7; rw [if_pos h7] at hs; exact (no hs).elim
    · rename_i h7
      rw [if_neg h7] at hs
      have e := one hs
      subst e
      exact ⟨rfl, fun _ _ => by show ((nbF r t a).2.1.size : Int) + a ≤ ((nbF r t a).2.2 : Int); omega, fun e => absurd (show (nbF r t a).1 = 7 from e) (by omega)⟩
  rename_i h3; rw [if_neg h3] at h hs
  split
  · rename_i h4; rw [if_pos h4] at h hs
    have h5 := rnF_fit bSd bSd0 r t a
    exact sh h hs (by decide) (by rw [size_of (rnF bSd bSd0 r t a).1]; omega)
  rename_i h4; rw [if_neg h4] at h hs
  split
  · rename_i h5; rw [if_pos h5] at h hs
    unfold snR at h hs ⊢
    split
    · rename_i u hu
      rw [hu] at hs
      have e := one hs
      subst e
      exact ⟨rfl, fun _ _ => by show ((ByteArray.mk u.toArray).size : Int) + a ≤ (a : Int) + (u.length : Int); rw [size_of u]; omega, fun e => absurd e (by show ¬ (8 : Int) = 7; decide)⟩
    · rename_i hu; rw [hu] at hs; exact (no hs).elim
  · rename_i h5; rw [if_neg h5] at h hs
    have h6 := bdF_fit r t a ha
    unfold wdR at h hs ⊢
    have rm : ∀ {x : ByteArray} {f : Nat} {b : Bool}, (rmR r t x (a : Int) f b l).l = l ++ [s] → False := fun {x f b} e => by
      unfold rmR at e
      split at e <;> exact no e
    split
    · rename_i h7; rw [if_pos h7] at hs; exact (rm hs).elim
    rename_i h7; rw [if_neg h7] at h hs
    split
    · rename_i h8; rw [if_pos h8] at hs; exact (rm hs).elim
    · rename_i h8; rw [if_neg h8] at h hs
      exact sh h hs (by decide) (by omega)
end Go.Proofs.YtbnldpcbdeeflaaGreatDoor
