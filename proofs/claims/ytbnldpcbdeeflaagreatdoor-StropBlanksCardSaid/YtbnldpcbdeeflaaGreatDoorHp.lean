/- A step that ends before a place is the same in a text that is alike up to there. No conditions. -/
import Derived.Test.YtbnldpcbdeeflaaGreatDoorHs
namespace Go.Proofs.YtbnldpcbdeeflaaGreatDoor
open Go.ChangeShapes Go.WideShapes Go.ChangeAt Go.RowKit


/-- A byte with which nothing goes on. -/
def stp (c : Int) : Prop := c = 0 ∨ c = 9 ∨ c = 10 ∨ c = 32 ∨ c = 35
/-- A text that begins as another one up to b, where something ends. -/
structure Pf (t t' : ByteArray) (b : Nat) : Prop where
  h1 : b ≤ t.size
  h2 : b ≤ t'.size
  tk : t'.data.toList.take b = t.data.toList.take b
  st : stp (pk t' b)
  nb : bBl (pk t b) = false
theorem pf_pk {t t' : ByteArray} {b : Nat} (h : Pf t t' b) {i : Nat} (hi : i < b) : pk t' i = pk t i := by
  rw [pk_get, pk_get]
  have := congrArg (fun l : List UInt8 => l[i]?) h.tk
  simp only [List.getElem?_take, if_pos hi] at this
  rw [this]
theorem pf_ch {t t' : ByteArray} {b : Nat} (h : Pf t t' b) (r : Int) {i : Nat} (hi : i < b) : ch r t' i = ch r t i := by
  unfold ch; rw [pf_pk h hi]
theorem pf_take {t t' : ByteArray} {b : Nat} (h : Pf t t' b) (i : Nat) {j : Nat} (hj : j ≤ b) : List.take (j - i) (List.drop i t'.data.toList) = List.take (j - i) (List.drop i t.data.toList) := by
  have e : ∀ l : List UInt8, List.take (j - i) (List.drop i l) = List.drop i (List.take j (List.take b l)) := by
    intro l
    rw [List.take_take, Nat.min_eq_left hj, List.drop_take]
  rw [e, e, h.tk]
theorem pf_ext {t t' : ByteArray} {b : Nat} (h : Pf t t' b) (i : Nat) {j : Nat} (hj : j ≤ b) : t'.extract i j = t.extract i j := by
  have : (t'.extract i j).data.toList = (t.extract i j).data.toList := by rw [Lib.extract_data, Lib.extract_data, pf_take h i hj]
  exact ByteArray.ext (Array.toList_inj.1 this)
theorem pf_ru {t t' : ByteArray} {b : Nat} (h : Pf t t' b) (f : Int → Bool) (hf : f 0 = false) (hs : f (pk t' b) = false) (i : Nat) (hi : i ≤ b) : ru f hf t' i = min (ru f hf t i) b := by
  have hg := ru_ge f hf t i
  rcases Nat.lt_or_ge i b with hlt | hge
  · rcases Bool.eq_false_or_eq_true (f (pk t i)) with k | k
    · rw [ru_yes k, ru_yes (by rw [pf_pk h hlt]; exact k)]
      exact pf_ru h f hf hs (i + 1) hlt
    · rw [ru_no k, ru_no (by rw [pf_pk h hlt]; exact k)]
      omega
  · have : i = b := by omega
    subst this
    rw [ru_no hs]
    omega
termination_by b - i
theorem sk_b {t t' : ByteArray} {b : Nat} (h : Pf t t' b) : sk t b = b := ru_no h.nb
theorem pf_sk {t t' : ByteArray} {b : Nat} (h : Pf t t' b) (i : Nat) (hi : i ≤ b) : (sk t i < b ∧ sk t' i = sk t i) ∨ (sk t i = b ∧ sk t' i = sk t' b) := by
  rcases Nat.lt_or_ge i b with hlt | hge
  · rcases Bool.eq_false_or_eq_true (bBl (pk t i)) with k | k
    · have e1 : sk t i = sk t (i + 1) := ru_yes k
      have e2 : sk t' i = sk t' (i + 1) := ru_yes (by rw [pf_pk h hlt]; exact k)
      rw [e1, e2]
      exact pf_sk h (i + 1) hlt
    · have e1 : sk t i = i := ru_no k
      have e2 : sk t' i = i := ru_no (by rw [pf_pk h hlt]; exact k)
      rw [e1, e2]
      exact Or.inl ⟨hlt, rfl⟩
  · have : i = b := by omega
    subst this
    exact Or.inr ⟨sk_b h, rfl⟩
termination_by b - i
/-- What is looked at behind b. -/
def Lk (r : Int) (t t' : ByteArray) (b : Nat) (s : Prop) : Prop :=
  (ch r t' (sk t' b) = 0 ∧ ¬ (pk t' (sk t' b) = 46 ∧ bDi (pk t' (sk t' b + 1)) = true) ∧ (pk t' (sk t' b) = 43 ∨ pk t' (sk t' b) = 45 → s)) ∨
  (∃ d, Sf t t' b d ∧ sk t' b = b + d)
theorem Lk.mono {r : Int} {t t' : ByteArray} {b : Nat} {s s' : Prop} (h : Lk r t t' b s) (k : s → s') : Lk r t t' b s' := by
  rcases h with ⟨h1, h2, h3⟩ | h
  · exact Or.inl ⟨h1, h2, fun e => k (h3 e)⟩
  · exact Or.inr h
theorem lk_no {r : Int} {t t' : ByteArray} {b : Nat} {s : Prop} (h : Lk r t t' b s) (f : Int → Bool) (hf : f 0 = false) (k : f (ch r t b) = false) : f (ch r t' (sk t' b)) = false := by
  rcases h with ⟨h1, _, _⟩ | ⟨d, hd, he⟩
  · rw [h1]; exact hf
  · rw [he, sf_ch hd r (Nat.le_refl b)]; exact k
theorem rn_gt {f : Int → Bool} {hf : f 0 = false} {r : Int} {t : ByteArray} {i e : Nat} (h : f (ch r t i) = true) : i < (rn f hf r t i e).2 := by
  rw [rn_yes h]
  exact rn_ge f hf r t _ (i + 1) (sk_ge t (i + 1))
theorem rn_nil {f : Int → Bool} {hf : f 0 = false} {r : Int} {t : ByteArray} {i e : Nat} (h : (rn f hf r t i e).1 = []) : (rn f hf r t i e) = ([], e) := by
  rcases Bool.eq_false_or_eq_true (f (ch r t i)) with k | k
  · rw [rn_yes k] at h; cases h
  · exact rn_no k
theorem rnF_nil {f : Int → Bool} {hf : f 0 = false} {r : Int} {t : ByteArray} {i : Nat} (h : (rnF f hf r t i).1 = []) : (rnF f hf r t i) = ([], i) := rn_nil h
theorem rn_some {f : Int → Bool} {hf : f 0 = false} {r : Int} {t : ByteArray} {i e : Nat} (h : (rn f hf r t i e).1 ≠ []) : i < (rn f hf r t i e).2 := by
  rcases Bool.eq_false_or_eq_true (f (ch r t i)) with k | k
  · exact rn_gt k
  · rw [rn_no k] at h; exact absurd rfl h
theorem rnF_some {f : Int → Bool} {hf : f 0 = false} {r : Int} {t : ByteArray} {i : Nat} (h : (rnF f hf r t i).1 ≠ []) : i < (rnF f hf r t i).2 := by
  have := rn_some (t := t) (e := i) h
  have := sk_ge t i
  unfold rnF at *
  omega
theorem pf_rn {t t' : ByteArray} {b : Nat} (h : Pf t t' b) {r : Int} {s : Prop} (hL : Lk r t t' b s) (f : Int → Bool) (hf : f 0 = false) (i e : Nat) (hi : i < b) (he : (rn f hf r t i e).2 ≤ b) : rn f hf r t' i e = rn f hf r t i e := by
  rcases Bool.eq_false_or_eq_true (f (ch r t i)) with k | k
  · have hk := sk_ge t (i + 1)
    rw [rn_yes k] at he ⊢
    rw [rn_yes (by rw [pf_ch h r hi]; exact k), pf_ch h r hi]
    simp only at he
    have e1 : rn f hf r t' (sk t' (i + 1)) (i + 1) = rn f hf r t (sk t (i + 1)) (i + 1) := by
      rcases pf_sk h (i + 1) hi with ⟨h1, h2⟩ | ⟨h1, h2⟩
      · rw [h2]
        exact pf_rn h hL f hf (sk t (i + 1)) (i + 1) h1 he
      · rw [h1] at he ⊢
        have k2 : f (ch r t b) = false := by
          rcases Bool.eq_false_or_eq_true (f (ch r t b)) with k2 | k2
          · have := rn_gt (hf := hf) (e := i + 1) k2; omega
          · exact k2
        rw [h2, rn_no k2, rn_no (lk_no hL f hf k2)]
    rw [e1]
  · rw [rn_no k, rn_no (by rw [pf_ch h r hi]; exact k)]
termination_by b - i
decreasing_by omega
theorem pf_rnF {t t' : ByteArray} {b : Nat} (h : Pf t t' b) {r : Int} {s : Prop} (hL : Lk r t t' b s) (f : Int → Bool) (hf : f 0 = false) (i : Nat) (hi : i ≤ b) (he : (rnF f hf r t i).2 ≤ b) : rnF f hf r t' i = rnF f hf r t i := by
  unfold rnF at he ⊢
  rcases pf_sk h i hi with ⟨h1, h2⟩ | ⟨h1, h2⟩
  · rw [h2]
    exact pf_rn h hL f hf _ _ h1 he
  · rw [h1] at he ⊢
    have k2 : f (ch r t b) = false := by
      rcases Bool.eq_false_or_eq_true (f (ch r t b)) with k2 | k2
      · have := rn_gt (hf := hf) (e := i) k2; omega
      · exact k2
    rw [h2, rn_no k2, rn_no (lk_no hL f hf k2)]
/-- The digits from a place on, where they end before b or are none. -/
theorem pf_rnN {t t' : ByteArray} {b : Nat} (h : Pf t t' b) {r : Int} {s : Prop} (hL : Lk r t t' b s) (f : Int → Bool) (hf : f 0 = false) (i : Nat) (hi : i ≤ b) (he : (rnF f hf r t i).1 ≠ [] → (rnF f hf r t i).2 ≤ b) : rnF f hf r t' i = rnF f hf r t i := by
  refine pf_rnF h hL f hf i hi ?_
  by_cases hn : (rnF f hf r t i).1 = []
  · rw [rnF_nil hn]; exact hi
  · exact he hn
theorem rdF_cg {r : Int} {t : ByteArray} {i j : Nat} (h : sk t i = sk t j) : (rdF r t i).1 = (rdF r t j).1 := by
  unfold rdF
  rw [h]
  split <;> rfl
theorem exF_cg {r : Int} {t : ByteArray} {i j : Nat} (h : sk t i = sk t j) : (exF r t i).1 = (exF r t j).1 := by
  unfold exF
  rw [h]
  have e : ∀ p q, (exS t i p q).1 = (exS t j p q).1 := by intro p q; unfold exS; split <;> rfl
  split
  · split
    · exact e _ _
    · exact e _ _
  · rfl
theorem push_ne (p : ByteArray) (c : UInt8) (l : List UInt8) : (ByteArray.mk #[c]) ++ p ++ ⟨l.toArray⟩ ≠ ⟨#[]⟩ := by
  intro h
  have := congrArg (fun x : ByteArray => x.size) h
  simp only [ByteArray.size_append] at this
  have e : (ByteArray.mk #[c]).size = 1 := rfl
  have e0 : (ByteArray.mk #[]).size = 0 := rfl
  omega
theorem push_ne1 (c : UInt8) (l : List UInt8) : (ByteArray.mk #[c]) ++ ⟨l.toArray⟩ ≠ ⟨#[]⟩ := by
  intro h
  have := congrArg (fun x : ByteArray => x.size) h
  simp only [ByteArray.size_append] at this
  have e : (ByteArray.mk #[c]).size = 1 := rfl
  have e0 : (ByteArray.mk #[]).size = 0 := rfl
  omega
theorem exS_nil {t : ByteArray} {a : Nat} {pre : ByteArray} {q : List UInt8 × Nat} (hp : ∀ l : List UInt8, pre ++ ⟨l.toArray⟩ ≠ ⟨#[]⟩) : (exS t a pre q).1 = ⟨#[]⟩ ↔ q.1 = [] := by
  unfold exS
  split
  · rename_i h; exact ⟨fun _ => h, fun _ => rfl⟩
  · rename_i h; exact ⟨fun e => absurd e (hp _), fun e => absurd e h⟩
theorem ex_nil {r : Int} {t : ByteArray} {a : Nat} (h : (exF r t a).1 = ⟨#[]⟩) : exF r t a = (⟨#[]⟩, a) := by
  unfold exF at h ⊢
  split
  · rename_i h0
    rw [if_pos h0] at h
    split
    · rename_i h1
      rw [if_pos h1] at h
      have := (exS_nil (fun l => push_ne _ _ l)).1 h
      unfold exS; rw [if_pos this]
    · rename_i h1
      rw [if_neg h1] at h
      have := (exS_nil (fun l => push_ne1 _ l)).1 h
      unfold exS; rw [if_pos this]
  · rfl
theorem sk_twice (t : ByteArray) (i : Nat) : sk t (sk t i) = sk t i := by
  rcases Bool.eq_false_or_eq_true (bBl (pk t i)) with k | k
  · have hlt := lt_of_yes bBl0 k
    have e : sk t i = sk t (i + 1) := ru_yes k
    rw [e]; exact sk_twice t (i + 1)
  · have e : sk t i = i := ru_no k
    rw [e, e]
termination_by t.size - i
theorem rd_pos {r : Int} {t : ByteArray} {a : Nat} (h : (rdF r t a).1 ≠ []) : sk t a < (rdF r t a).2 := by
  unfold rdF at h ⊢
  split
  · rename_i h0
    rw [if_pos h0] at h
    have := rnF_some h
    omega
  · rename_i h0
    rw [if_neg h0] at h
    exact absurd rfl h
theorem ex_pos {r : Int} {t : ByteArray} {a : Nat} (h : (exF r t a).1 ≠ ⟨#[]⟩) : sk t (sk t a + 1) < (exF r t a).2 := by
  unfold exF at h ⊢
  split
  · rename_i h0
    rw [if_pos h0] at h
    split
    · rename_i h1
      rw [if_pos h1] at h
      have h2 : (rnF bDi bDi0 r t (sk t (sk t a + 1) + 1)).1 ≠ [] := fun e => h ((exS_nil (fun l => push_ne _ _ l)).2 e)
      have := rnF_some h2
      unfold exS; rw [if_neg h2]; simp only; omega
    · rename_i h1
      rw [if_neg h1] at h
      have h2 : (rnF bDi bDi0 r t (sk t (sk t a + 1))).1 ≠ [] := fun e => h ((exS_nil (fun l => push_ne1 _ l)).2 e)
      have := rnF_some h2
      unfold exS; rw [if_neg h2]; simp only; omega
  · rename_i h0
    rw [if_neg h0] at h
    exact absurd rfl h
theorem pf_rdF {t t' : ByteArray} {b : Nat} (h : Pf t t' b) {r : Int} {s : Prop} (hL : Lk r t t' b s) (a : Nat) (ha : a ≤ b) (he : (rdF r t a).1 ≠ [] → (rdF r t a).2 ≤ b) :
    (rdF r t' a).1 = (rdF r t a).1 ∧ ((rdF r t a).1 ≠ [] → rdF r t' a = rdF r t a) := by
  rcases pf_sk h a ha with ⟨h1, h2⟩ | ⟨h1, h2⟩
  · have e : rdF r t' a = rdF r t a := by
      unfold rdF at he ⊢
      rw [h2, pf_ch h r h1]
      split
      · rename_i h0
        rw [if_pos h0] at he
        exact pf_rnN h hL bHx bHx0 _ h1 he
      · rfl
    rw [e]; exact ⟨rfl, fun _ => rfl⟩
  · have hn : (rdF r t a).1 = [] := by
      by_cases hn : (rdF r t a).1 = []
      · exact hn
      · have := he hn
        have := rd_pos hn
        omega
    refine ⟨?_, fun k => absurd hn k⟩
    rw [hn]
    rcases hL with ⟨k1, _, _⟩ | ⟨d, hd, hq⟩
    · unfold rdF
      rw [h2, k1, if_neg (by decide)]
    · have e1 : sk t' a = sk t' (b + d) := by rw [h2, ← hq, sk_twice]
      rw [rdF_cg e1, sf_rdF hd r b (Nat.le_refl b)]
      show (rdF r t b).1 = []
      rw [rdF_cg (show sk t b = sk t a by rw [h1, sk_b h]), hn]
theorem pf_exF {t t' : ByteArray} {b : Nat} (h : Pf t t' b) {r : Int} (a : Nat) (hL : Lk r t t' b (a = b ∨ (exF r t a).1 ≠ ⟨#[]⟩)) (ha : a ≤ b) (he : (exF r t a).1 ≠ ⟨#[]⟩ → (exF r t a).2 ≤ b) :
    exF r t' a = exF r t a := by
  rcases pf_sk h a ha with ⟨h1, h2⟩ | ⟨h1, h2⟩
  · rcases pf_sk h (sk t a + 1) h1 with ⟨p1, p2⟩ | ⟨p1, p2⟩
    · unfold exF at he ⊢
      rw [h2, pf_ch h r h1, p2, pf_pk h p1]
      split
      · rename_i h0
        rw [if_pos h0] at he
        split
        · rename_i h3
          rw [if_pos h3] at he
          rw [pf_ext h _ p1, pf_rnN h hL bDi bDi0 _ p1 (fun hn => by
            have hx := he (fun e => hn ((exS_nil (fun l => push_ne _ _ l)).1 e))
            unfold exS at hx; rw [if_neg hn] at hx; exact hx)]
          rfl
        · rename_i h3
          rw [if_neg h3] at he
          rw [pf_rnN h hL bDi bDi0 _ (Nat.le_of_lt p1) (fun hn => by
            have hx := he (fun e => hn ((exS_nil (fun l => push_ne1 _ l)).1 e))
            unfold exS at hx; rw [if_neg hn] at hx; exact hx)]
          rfl
      · rfl
    · have hn : (exF r t a).1 = ⟨#[]⟩ := by
        by_cases hn : (exF r t a).1 = ⟨#[]⟩
        · exact hn
        · have := he hn
          have := ex_pos hn
          omega
      refine (ex_nil ?_).trans (ex_nil hn).symm
      have hg := sk_ge t a
      unfold exF at hn ⊢
      rw [h2, pf_ch h r h1, p2]
      rw [p1] at hn
      split
      · rename_i h0
        rw [if_pos h0] at hn
        rcases hL with ⟨k1, k2, k3⟩ | ⟨d, hd, hq⟩
        · rw [if_neg (fun e => by
            rcases k3 e with k | k
            · omega
            · exact k (by unfold exF; rw [if_pos h0, p1]; exact hn))]
          refine (exS_nil (fun l => push_ne1 _ l)).2 ?_
          unfold rnF
          rw [sk_twice, rn_no (by rw [k1]; rfl)]
        · rw [hq, sf_pk hd (Nat.le_refl b)]
          split
          · rename_i h3
            rw [if_pos h3] at hn
            refine (exS_nil (fun l => push_ne _ _ l)).2 ?_
            rw [show b + d + 1 = (b + 1) + d by omega, sf_rnF hd bDi bDi0 r _ (by omega)]
            show (rnF bDi bDi0 r t (b + 1)).1 = []
            exact (exS_nil (fun l => push_ne _ _ l)).1 hn
          · rename_i h3
            rw [if_neg h3] at hn
            refine (exS_nil (fun l => push_ne1 _ l)).2 ?_
            rw [sf_rnF hd bDi bDi0 r _ (Nat.le_refl b)]
            show (rnF bDi bDi0 r t b).1 = []
            exact (exS_nil (fun l => push_ne1 _ l)).1 hn
      · rfl
  · have hn : (exF r t a).1 = ⟨#[]⟩ := by
      by_cases hn : (exF r t a).1 = ⟨#[]⟩
      · exact hn
      · have := he hn
        have := ex_pos hn
        have := sk_ge t (sk t a + 1)
        omega
    refine (ex_nil ?_).trans (ex_nil hn).symm
    rcases hL with ⟨k1, _, _⟩ | ⟨d, hd, hq⟩
    · unfold exF
      rw [h2, k1, if_neg (by decide)]
    · have e1 : sk t' a = sk t' (b + d) := by rw [h2, ← hq, sk_twice]
      rw [exF_cg e1, sf_exF hd r b (Nat.le_refl b)]
      show (exF r t b).1 = ⟨#[]⟩
      rw [exF_cg (show sk t b = sk t a by rw [h1, sk_b h]), hn]


theorem pf_not {t t' : ByteArray} {b : Nat} (h : Pf t t' b) (f : Int → Bool) (h0 : f 0 = false) (h9 : f 9 = false) (h10 : f 10 = false) (h32 : f 32 = false) (h35 : f 35 = false) : f (pk t' b) = false := by
  rcases h.st with e | e | e | e | e <;> rw [e] <;> assumption
theorem di_b {t : ByteArray} {r : Int} {b : Nat} (k : bDi (pk t b) = true) (a : Nat) (h : a = b) : b < (rnF bDi bDi0 r t a).2 := by
  subst h
  have := di_ch (r := r) k
  exact rnF_gt bDi bDi0 r t a this.1 this.2
theorem pf_mnF {t t' : ByteArray} {b : Nat} (h : Pf t t' b) {r : Int} {s : Prop} (hL : Lk r t t' b s) (q : List UInt8 × Nat) (hq : q.2 ≤ b) (he : (mnF r t q).2.2 ≤ b) : mnF r t' q = mnF r t q := by
  have hst := pf_not h bDi rfl rfl rfl rfl rfl
  have hg := sk_ge t q.2
  rcases pf_sk h q.2 hq with ⟨h1, h2⟩ | ⟨h1, h2⟩
  · have e1 : (pk t' (sk t q.2) = 46 ∧ bDi (pk t' (sk t q.2 + 1)) = true) ↔ (pk t (sk t q.2) = 46 ∧ bDi (pk t (sk t q.2 + 1)) = true) := by
      rw [pf_pk h h1]
      rcases Nat.lt_or_ge (sk t q.2 + 1) b with h3 | h3
      · rw [pf_pk h h3]
      · have h4 : sk t q.2 + 1 = b := by omega
        rw [h4, hst]
        constructor
        · intro k; exact absurd k.2 (by decide)
        · intro k
          unfold mnF at he
          rw [if_pos (by rw [h4]; exact k)] at he
          have := di_b (r := r) k.2 (sk t q.2 + 1) h4
          simp only at he; omega
    unfold mnF at he ⊢
    rw [h2]
    by_cases k : pk t (sk t q.2) = 46 ∧ bDi (pk t (sk t q.2 + 1)) = true
    · rw [if_pos k] at he ⊢
      rw [if_pos (e1.2 k), pf_rnF h hL bDi bDi0 _ h1 he]
    · rw [if_neg k, if_neg (fun k2 => k (e1.1 k2))]
  · have k : ¬ (pk t b = 46 ∧ bDi (pk t (b + 1)) = true) := by
      intro k
      unfold mnF at he
      rw [h1, if_pos k] at he
      have := rnF_ge bDi bDi0 r t (b + 1)
      simp only at he; omega
    have k' : ¬ (pk t' (sk t' b) = 46 ∧ bDi (pk t' (sk t' b + 1)) = true) := by
      rcases hL with ⟨_, k2, _⟩ | ⟨d, hd, he⟩
      · exact k2
      · rw [he, sf_pk hd (Nat.le_refl b), show b + d + 1 = (b + 1) + d by omega, sf_pk hd (by omega)]
        exact k
    unfold mnF
    rw [h2, h1, if_neg k, if_neg k']
theorem pf_xnF {t t' : ByteArray} {b : Nat} (h : Pf t t' b) {r : Int} (m : Int × ByteArray × Nat) (hL : Lk r t t' b ((xnF r t m).2.2 = b)) (hq : m.2.2 ≤ b) (he : (xnF r t m).2.2 ≤ b) : xnF r t' m = xnF r t m := by
  have e : exF r t' m.2.2 = exF r t m.2.2 := by
    refine pf_exF h m.2.2 (hL.mono ?_) hq ?_
    · intro k
      by_cases hn : (exF r t m.2.2).1 = ⟨#[]⟩
      · unfold xnF at k
        rw [if_pos hn] at k
        exact Or.inl k
      · exact Or.inr hn
    · intro hn
      unfold xnF at he
      rw [if_neg hn] at he
      exact he
  unfold xnF
  rw [e]
theorem pf_nbF {t t' : ByteArray} {b : Nat} (h : Pf t t' b) {r : Int} (a : Nat) (hL : Lk r t t' b ((nbF r t a).2.2 = b)) (ha : a ≤ b) (he : (nbF r t a).2.2 ≤ b) : nbF r t' a = nbF r t a ∧ rnF bDi bDi0 r t' a = rnF bDi bDi0 r t a ∧ (rdF r t' (rnF bDi bDi0 r t a).2).1 = (rdF r t (rnF bDi bDi0 r t a).2).1 := by
  have h1 := h.h1
  have hb := nb_bd r t a (by omega)
  have hq := rnF_end bDi bDi0 r t a (by omega)
  have e1 := pf_rnF h hL bDi bDi0 a ha (by omega)
  have e2 := pf_rdF h hL (rnF bDi bDi0 r t a).2 (by omega) (fun hn => by
    unfold nbF at he
    rw [if_neg hn] at he
    exact he)
  refine ⟨?_, e1, e2.1⟩
  unfold nbF at he hL ⊢
  rw [e1, e2.1]
  by_cases hn : (rdF r t (rnF bDi bDi0 r t a).2).1 = []
  · rw [if_pos hn] at he hL ⊢
    rw [if_pos hn]
    have m1 := mnF_bd r t (rnF bDi bDi0 r t a) hq
    have m2 := xnF_bd r t (mnF r t (rnF bDi bDi0 r t a)) m1.2
    rw [pf_mnF h hL _ (by omega) (by omega)]
    exact pf_xnF h _ hL (by omega) he
  · rw [if_neg hn, if_neg hn, e2.2 hn]
theorem pf_nuR {t t' : ByteArray} {b : Nat} (h : Pf t t' b) {r : Int} (a : Nat) (l : List Sy) (hc : (nuR r t a l).c = 0) (hL : Lk r t t' b ((nuR r t a l).a = (b : Int))) (ha : a ≤ b) (he : (nuR r t a l).a ≤ (b : Int)) : nuR r t' a l = nuR r t a l := by
  have hx : (nuR r t a l).a = ((nbF r t a).2.2 : Int) := by
    unfold nuR at hc ⊢
    split
    · rename_i k; rw [if_pos k] at hc; exact absurd hc (by simp)
    rename_i k
    rw [if_neg k] at hc
    split
    · rename_i k2; rw [if_pos k2] at hc; exact absurd hc (by simp)
    · rfl
  obtain ⟨e1, e2, e3⟩ := pf_nbF h a (hL.mono (fun k => by rw [hx] at k; omega)) ha (by rw [hx] at he; omega)
  unfold nuR
  rw [e1, e2, e3]
theorem pf_cmE {t t' : ByteArray} {b : Nat} (h : Pf t t' b) (a : Int) (i : Nat) (hc : (cmE t a i).2.2 = 0) (he : (cmE t a i).1 ≤ (b : Int)) : cmE t' a i = cmE t a i := by
  obtain ⟨k, k1, k2, k3⟩ := cm_up t a i hc
  have hib : i < b := by omega
  have h1 := h.h1
  have h2 := h.h2
  have hlt : i < t.size := by omega
  rcases Bool.eq_false_or_eq_true (bTx (pk t i)) with m | m
  · by_cases n : pk t i = 35
    · rw [cm_end hlt m n, cm_end (by omega) (by rw [pf_pk h hib]; exact m) (by rw [pf_pk h hib]; exact n)]
    · rw [cm_next hlt m n] at hc he ⊢
      rw [cm_next (by omega) (by rw [pf_pk h hib]; exact m) (by rw [pf_pk h hib]; exact n)]
      exact pf_cmE h a (i + 1) hc he
  · rw [cm_bad hlt m] at hc
    exact absurd hc (by simp)
termination_by t.size - i
theorem pf_litF {t t' : ByteArray} {b : Nat} (h : Pf t t' b) (i : Nat) (a : Int) (hi : i < b) : litF t' i a = litF t i a := by
  have h1 := h.h1
  have h2 := h.h2
  unfold litF
  rw [if_pos (show i < t'.size by omega), if_pos (show i < t.size by omega), pf_pk h hi]
theorem pf_quE {t t' : ByteArray} {b : Nat} (h : Pf t t' b) (a : Int) (i : Nat) (hc : (quE t a i).2.1 = 0) (he : (quE t a i).2.2 < b) : quE t' a i = quE t a i := by
  have hu := qu_up t a i hc
  have hib : i < b := by omega
  have hl := pf_litF h i a hib
  have p0 := pf_pk h hib
  by_cases k : (litF t i a).2 = 0
  · have hlt := lit_lt k
    by_cases h34 : pk t i = 34
    · have p1 : pk t' (i + 1) = 34 ↔ pk t (i + 1) = 34 := by
        rcases Nat.lt_or_ge (i + 1) b with h3 | h3
        · rw [pf_pk h h3]
        · have h4 : i + 1 = b := by omega
          constructor
          · intro e
            rw [h4] at e
            rcases h.st with q | q | q | q | q <;> rw [q] at e <;> exact absurd e (by decide)
          · intro e
            rw [qu_two k h34 e] at hc he
            have := qu_up t a (i + 1 + 1) hc
            omega
      by_cases n : pk t (i + 1) = 34
      · rw [qu_two k h34 n] at hc he ⊢
        rw [qu_two (by rw [hl]; exact k) (p0.trans h34) (p1.2 n)]
        exact pf_quE h a (i + 1 + 1) hc he
      · rw [qu_end k h34 n, qu_end (by rw [hl]; exact k) (p0.trans h34) (fun e => n (p1.1 e))]
    · rw [qu_one k h34] at hc he ⊢
      rw [qu_one (by rw [hl]; exact k) (by rw [p0]; exact h34)]
      exact pf_quE h a (i + 1) hc he
  · rw [qu_bad k] at hc
    exact absurd hc k
termination_by t.size - i
theorem pf_fmE {t t' : ByteArray} {b : Nat} (h : Pf t t' b) (a : Int) (i : Nat) (wi : Bool) (hc : (fmE t a i wi).2.1 = 0) (he : (fmE t a i wi).2.2 < b) : fmE t' a i wi = fmE t a i wi := by
  have hu := fm_up t a i wi hc
  have hib : i < b := by omega
  have hl := pf_litF h i a hib
  have p0 := pf_pk h hib
  by_cases h36 : wi = false ∧ pk t i = 36
  · obtain ⟨rfl, h36⟩ := h36
    rw [fm_end h36, fm_end (p0.trans h36)]
  · have h36' : ¬ (wi = false ∧ pk t' i = 36) := by rw [p0]; exact h36
    by_cases k : (litF t i a).2 = 0
    · have hlt := lit_lt k
      rw [fm_go h36 k] at hc he ⊢
      rw [fm_go h36' (by rw [hl]; exact k), p0]
      exact pf_fmE h a (i + 1) _ hc he
    · rw [fm_bad h36 k] at hc
      exact absurd hc k
termination_by t.size - i
theorem pf_bdF {t t' : ByteArray} {b : Nat} (h : Pf t t' b) (r : Int) (i : Nat) (hi : i < b) (he : (bdF r t i).2 ≤ b) : bdF r t' i = bdF r t i := by
  have p0 := pf_pk h hi
  have sL := pf_not h bLe rfl rfl rfl rfl rfl
  have eC := pf_ru h bCd bCd0 (pf_not h bCd rfl rfl rfl rfl rfl) i (by omega)
  have eL := pf_ru h bLd bLd0 (pf_not h bLd rfl rfl rfl rfl rfl) (i + 1) hi
  have gL := ru_ge bLd bLd0 t (i + 1)
  unfold bdF at he ⊢
  rw [p0, eC, eL]
  by_cases h0 : r = 0
  · rw [if_pos h0] at he ⊢
    rw [if_pos h0]
    by_cases k : bCa (pk t i) = true
    · rw [if_pos k] at he ⊢
      rw [if_pos k]
      simp only at he
      rw [Nat.min_eq_left he, pf_ext h i he]
    · rw [if_neg k, if_neg k]
  · rw [if_neg h0] at he ⊢
    rw [if_neg h0]
    have pL : bLe (pk t' (i + 1)) = true → bLe (pk t (i + 1)) = true := by
      intro k
      rcases Nat.lt_or_ge (i + 1) b with h3 | h3
      · rw [pf_pk h h3] at k; exact k
      · rw [show i + 1 = b by omega, sL] at k; exact absurd k (by decide)
    have pL2 : bLe (pk t (i + 1)) = true → ru bLd bLd0 t (i + 1) ≤ b → bLe (pk t' (i + 1)) = true := by
      intro k k2
      have : i + 1 < ru bLd bLd0 t (i + 1) := ru_gt bLd bLd0 t (i + 1) (by unfold bLd; rw [k]; rfl)
      rw [pf_pk h (by omega)]; exact k
    by_cases h2 : r = 2
    · rw [if_pos h2] at he ⊢
      rw [if_pos h2]
      by_cases k : pk t i = 39 ∧ bLe (pk t (i + 1)) = true ∧ pk t (ru bLd bLd0 t (i + 1)) = 39
      · rw [if_pos k] at he ⊢
        simp only at he
        rw [Nat.min_eq_left (by omega)]
        rw [if_pos ⟨k.1, pL2 k.2.1 (by omega), by rw [pf_pk h (by omega)]; exact k.2.2⟩]
        unfold upW
        rw [pf_take h (i + 1) (by omega)]
      · rw [if_neg k]
        refine if_neg ?_
        rintro ⟨k1, k2, k3⟩
        refine k ⟨k1, pL k2, ?_⟩
        rcases Nat.lt_or_ge (ru bLd bLd0 t (i + 1)) b with h3 | h3
        · rw [Nat.min_eq_left (by omega), pf_pk h h3] at k3; exact k3
        · rw [Nat.min_eq_right h3] at k3
          rcases h.st with q | q | q | q | q <;> rw [q] at k3 <;> exact absurd k3 (by decide)
    · rw [if_neg h2] at he ⊢
      rw [if_neg h2]
      by_cases k : pk t i = 46 ∧ bLe (pk t (i + 1)) = true
      · rw [if_pos k] at he ⊢
        simp only at he
        rw [Nat.min_eq_left he, if_pos ⟨k.1, pL2 k.2 he⟩]
        unfold upW
        rw [pf_take h (i + 1) he]
      · rw [if_neg k]
        exact if_neg (fun k2 => k ⟨k2.1, pL k2.2⟩)
theorem rm_up2 (r : Int) (t x : ByteArray) (a : Int) (hx : x ≠ ⟨#[]⟩) (i : Nat) : (rmE r t x a i).2.1 = 0 → (rmE r t x a i).2.2.1 < (rmE r t x a i).2.2.2 := by
  rw [rmE]
  split
  · split
    · split
      · rename_i m
        intro _
        exact bd_up (by rw [m.1]; exact hx)
      · intro h
        exact rm_up2 r t x a hx _ h
    · intro h; simp at h
  · intro h; simp at h
termination_by t.size - i
decreasing_by omega
theorem pf_rmE {t t' : ByteArray} {b : Nat} (h : Pf t t' b) (r : Int) (x : ByteArray) (a : Int) (hx : x ≠ ⟨#[]⟩) (i : Nat) (hc : (rmE r t x a i).2.1 = 0) (he : (rmE r t x a i).2.2.2 ≤ b) (hib : i < b) : rmE r t' x a i = rmE r t x a i := by
  have h1 := h.h1
  have h2 := h.h2
  have hlt : i < t.size := by omega
  have p0 := pf_pk h hib
  have hj : jn r t' i = jn r t i := by unfold jn; rw [pf_pk h (by omega)]
  rcases Bool.eq_false_or_eq_true (bTx (pk t i)) with k | k
  · by_cases m : (bdF r t i).1 = x ∧ jn r t i = false
    · rw [rm_end hlt k m.1 m.2] at he ⊢
      have hb := pf_bdF h r i hib he
      rw [rm_end (by omega) (by rw [p0]; exact k) (by rw [hb]; exact m.1) (by rw [hj]; exact m.2), hb]
    · rw [rm_go hlt k m] at hc he ⊢
      have hu := rm_up r t x a _ hc
      rcases Nat.lt_or_ge (max (i + 1) (bdF r t i).2) b with h3 | h3
      · have hb := pf_bdF h r i hib (by omega)
        rw [rm_go (by omega) (by rw [p0]; exact k) (by rw [hb, hj]; exact m), hb]
        exact pf_rmE h r x a hx _ hc he h3
      · have h5 : (rmE r t x a (max (i + 1) (bdF r t i).2)).2.2.1 < (rmE r t x a (max (i + 1) (bdF r t i).2)).2.2.2 := rm_up2 r t x a hx _ hc
        omega
  · rw [rm_bad hlt k] at hc
    exact absurd hc (by simp)
termination_by t.size - i
decreasing_by omega
theorem find_imp {p q : List UInt8 → Bool} {s : List UInt8} : ∀ (l : List (List UInt8)), (∀ x ∈ l, q x = true → p x = true) → l.find? p = some s → q s = true → l.find? q = some s
  | [], _, h, _ => by cases h
  | x :: l, hi, h, hs => by
    by_cases hp : p x = true
    · rw [List.find?_cons_of_pos hp] at h
      obtain rfl := Option.some.inj h
      exact List.find?_cons_of_pos hs
    · rw [List.find?_cons_of_neg hp] at h
      rw [List.find?_cons_of_neg (fun k => hp (hi x List.mem_cons_self k))]
      exact find_imp l (fun y hy => hi y (List.mem_cons_of_mem _ hy)) h hs
theorem sg_byte : ∀ s ∈ sgs, ∀ c ∈ s, ¬ (c.toNat = 0 ∨ c.toNat = 9 ∨ c.toNat = 10 ∨ c.toNat = 32 ∨ c.toNat = 35) := by decide
theorem pf_fdS {t t' : ByteArray} {b : Nat} (h : Pf t t' b) (a : Nat) (ha : a ≤ b) {s : List UInt8} (hs : fdS (t.data.toList.drop a) 0 = some s) (hn : a + s.length ≤ b) : fdS (t'.data.toList.drop a) 0 = some s := by
  have hd : List.take (b - a) (List.drop a t'.data.toList) = List.take (b - a) (List.drop a t.data.toList) := pf_take h a (Nat.le_refl b)
  have hmem : s ∈ sgs := by
    unfold fdS at hs
    have := List.mem_of_find?_eq_some hs
    simpa using this
  have hpre : s <+: List.drop a t.data.toList := by
    unfold fdS at hs
    have h0 := List.find?_some hs
    exact List.isPrefixOf_iff_prefix.mp h0
  unfold fdS at hs ⊢
  refine find_imp _ ?_ hs ?_
  · intro x hx hp
    rw [List.drop_zero] at hx
    have hp : x <+: List.drop a t'.data.toList := List.isPrefixOf_iff_prefix.mp hp
    have hxl : x.length ≤ b - a := by
      rcases Nat.lt_or_ge (b - a) x.length with k | k
      · exfalso
        have e1 : x[b - a]? = (List.drop a t'.data.toList)[b - a]? := by
          obtain ⟨y, hy⟩ := hp
          rw [← hy, List.getElem?_append_left k]
        rw [List.getElem?_eq_getElem k, List.getElem?_drop, show a + (b - a) = b by omega] at e1
        have e2 := pk_get t' b
        rw [← e1] at e2
        have e3 := sg_byte x hx (x[b - a]) (List.getElem_mem k)
        have e4 : pk t' b = ((x[b - a]).toNat : Int) := e2
        rcases h.st with q | q | q | q | q <;> rw [q] at e4 <;> exact e3 (by omega)
      · exact k
    refine List.isPrefixOf_iff_prefix.mpr ?_
    have h1 : x <+: List.take (b - a) (List.drop a t'.data.toList) := by
      rw [List.prefix_take_iff]; exact ⟨hp, hxl⟩
    rw [hd] at h1
    exact h1.trans (List.take_prefix _ _)
  · refine List.isPrefixOf_iff_prefix.mpr ?_
    have h1 : s <+: List.take (b - a) (List.drop a t.data.toList) := by
      rw [List.prefix_take_iff]; exact ⟨hpre, by omega⟩
    rw [← hd] at h1
    exact h1.trans (List.take_prefix _ _)
theorem nb_pt {r : Int} {t : ByteArray} {a : Nat} (h : pk t a = 46) (k : bDi (pk t (a + 1)) = true) : a + 1 < (nbF r t a).2.2 := by
  have hlt := lt_of_yes bDi0 k
  obtain ⟨p1, p2⟩ := pt_ch (r := r) h
  have hq : rnF bDi bDi0 r t a = ([], a) := by
    unfold rnF
    rw [p2, rn_no (by rw [p1]; rfl)]
  have hr : rdF r t a = ([], a) := by
    unfold rdF
    rw [p2, p1, if_neg (by decide)]
  unfold nbF
  rw [hq]
  simp only
  rw [hr, if_pos rfl]
  unfold mnF
  simp only
  rw [p2, if_pos ⟨h, k⟩]
  have h3 := di_b (r := r) k (a + 1) rfl
  have h4 := rnF_end bDi bDi0 r t (a + 1) (by omega)
  have h5 := (xnF_bd r t (4, ⟨([] : List UInt8).toArray⟩ ++ ⟨#[46]⟩ ++ ⟨(rnF bDi bDi0 r t (a + 1)).1.toArray⟩, (rnF bDi bDi0 r t (a + 1)).2) h4).1
  simp only at h5
  omega
theorem nu_a {r : Int} {t : ByteArray} {a : Nat} {l : List Sy} (hc : (nuR r t a l).c = 0) : (nuR r t a l).a = ((nbF r t a).2.2 : Int) := by
  unfold nuR at hc ⊢
  split
  · rename_i k; rw [if_pos k] at hc; exact absurd hc (by simp)
  rename_i k
  rw [if_neg k] at hc
  split
  · rename_i k2; rw [if_pos k2] at hc; exact absurd hc (by simp)
  · rfl
theorem upW_ne (t : ByteArray) (a z : Nat) (hz : a + 1 < z) (hz2 : z ≤ t.size) : upW t (a + 1) z ≠ ⟨#[]⟩ := by
  intro e
  have e1 := congrArg (fun x : ByteArray => x.data.toList.length) e
  unfold upW at e1
  have e2 : t.data.toList.length = t.size := by simp
  have e3 : (Lib.toUpperA (List.take (z - (a + 1)) (List.drop (a + 1) t.data.toList))).length = min (z - (a + 1)) (t.size - (a + 1)) := by
    rw [Lib.toUpperA, List.length_map, List.length_take, List.length_drop, e2]
  have e4 : (Lib.toUpperA (List.take (z - (a + 1)) (List.drop (a + 1) t.data.toList))).length = 0 := e1
  omega
/-- A step that ends before b is the same in a text that is alike up to there. -/
theorem pf_stR {t t' : ByteArray} {b : Nat} (h : Pf t t' b) {r : Int} (a : Nat) (l : List Sy) (ha : a < b) (hc : (stR r t a l).c = 0) (hL : (bDi (pk t a) = true ∨ (pk t a = 46 ∧ bDi (pk t (a + 1)) = true) ∨ bSm (ch r t a) = true) → Lk r t t' b ((stR r t a l).a = (b : Int))) (he : (stR r t a l).a ≤ (b : Int)) : stR r t' a l = stR r t a l := by
  have h1 := h.h1
  have p0 := pf_pk h ha
  have c0 := pf_ch h r ha
  have hlt : a < t.size := by omega
  unfold stR at hc hL he ⊢
  rw [p0, c0]
  by_cases k1 : pk t a = 35
  · rw [if_pos k1] at hc hL he ⊢
    rw [if_pos k1, pf_cmE h _ _ hc he]
  rw [if_neg k1] at hc hL he ⊢
  rw [if_neg k1]
  by_cases k2 : pk t a = 34
  · rw [if_pos k2] at hc hL he ⊢
    rw [if_pos k2]
    unfold quR at hc he ⊢
    by_cases m : (quE t (a : Int) (a + 1)).2.1 = 0
    · rw [if_pos m] at hc he
      simp only at he
      have e := pf_quE h (a : Int) (a + 1) m (by omega)
      rw [e]
      unfold quT
      rw [pf_take h (a + 1) (by omega)]
    · rw [if_neg m] at hc; exact absurd hc m
  rw [if_neg k2] at hc hL he ⊢
  rw [if_neg k2]
  by_cases k3 : pk t a = 36
  · rw [if_pos k3] at hc hL he ⊢
    rw [if_pos k3]
    unfold fmR at hc he ⊢
    by_cases m : (fmE t (a : Int) (a + 1) false).2.1 = 0
    · rw [if_pos m] at hc he
      simp only at he
      have e := pf_fmE h (a : Int) (a + 1) false m (by omega)
      rw [e, pf_ext h (a + 1) (by omega)]
    · rw [if_neg m] at hc; exact absurd hc m
  rw [if_neg k3] at hc hL he ⊢
  rw [if_neg k3]
  by_cases k4 : bDi (pk t a) = true ∨ pk t a = 46 ∧ bDi (pk t (a + 1)) = true
  · rw [if_pos k4] at hc hL he ⊢
    have k4' : bDi (pk t a) = true ∨ pk t a = 46 ∧ bDi (pk t' (a + 1)) = true := by
      rcases k4 with k | ⟨k, k5⟩
      · exact Or.inl k
      · refine Or.inr ⟨k, ?_⟩
        have := nb_pt (r := r) k k5
        rw [nu_a hc] at he
        rw [pf_pk h (by omega)]; exact k5
    rw [if_pos k4']
    exact pf_nuR h a l hc (hL (k4.imp id (fun k => Or.inl k))) (Nat.le_of_lt ha) he
  rw [if_neg k4] at hc hL he ⊢
  have k4' : ¬ (bDi (pk t a) = true ∨ pk t a = 46 ∧ bDi (pk t' (a + 1)) = true) := by
    rintro (k | ⟨k, k5⟩)
    · exact k4 (Or.inl k)
    · refine k4 (Or.inr ⟨k, ?_⟩)
      rcases Nat.lt_or_ge (a + 1) b with h3 | h3
      · rw [pf_pk h h3] at k5; exact k5
      · rw [show a + 1 = b by omega, pf_not h bDi rfl rfl rfl rfl rfl] at k5; exact absurd k5 (by decide)
  rw [if_neg k4']
  by_cases k5 : bSm (ch r t a) = true
  · rw [if_pos k5] at hc hL he ⊢
    rw [if_pos k5]
    rw [(sh_up hc).1] at he
    rw [pf_rnF h (hL (Or.inr (Or.inr k5))) bSd bSd0 a (Nat.le_of_lt ha) (by omega)]
  rw [if_neg k5] at hc hL he ⊢
  rw [if_neg k5]
  by_cases k6 : (bdF r t a).1 = ⟨#[]⟩
  · rw [if_pos k6] at hc hL he ⊢
    have hb2 : (bdF r t a).2 ≤ b := by
      have : bdF r t a = (⟨#[]⟩, a) := by
        have hbu := bd_end r t a hlt
        unfold bdF at k6 ⊢
        split
        · rename_i q; rw [if_pos q] at k6
          split
          · rename_i q2; rw [if_pos q2] at k6
            exfalso
            have := ru_gt bCd bCd0 t a (by unfold bCd; rw [q2]; rfl)
            have g2 := ru_le bCd bCd0 t a (by omega)
            have := congrArg (fun x : ByteArray => x.size) k6
            simp only [ByteArray.size_extract] at this
            have e0 : (ByteArray.mk #[]).size = 0 := rfl
            omega
          · rfl
        · rename_i q; rw [if_neg q] at k6
          have g2 := ru_le bLd bLd0 t (a + 1) (by omega)
          split
          · rename_i q1; rw [if_pos q1] at k6
            split
            · rename_i q2; rw [if_pos q2] at k6
              exact absurd k6 (upW_ne t a _ (ru_gt bLd bLd0 t (a + 1) (by unfold bLd; rw [q2.2.1]; rfl)) g2)
            · rfl
          · rename_i q1; rw [if_neg q1] at k6
            split
            · rename_i q2; rw [if_pos q2] at k6
              exact absurd k6 (upW_ne t a _ (ru_gt bLd bLd0 t (a + 1) (by unfold bLd; rw [q2.2]; rfl)) g2)
            · rfl
      rw [this]; exact Nat.le_of_lt ha
    rw [pf_bdF h r a ha hb2, if_pos k6]
    unfold snR at hc he ⊢
    cases hf : fdS (List.drop a t.data.toList) 0 with
    | some s =>
      rw [hf] at he
      simp only at he
      rw [pf_fdS h a (Nat.le_of_lt ha) hf (by omega)]
    | none => rw [hf] at hc; simp only at hc; split at hc <;> exact absurd hc (by decide)
  · rw [if_neg k6] at hc hL he ⊢
    have hb2 : (bdF r t a).2 ≤ b := by
      unfold wdR at hc he
      split at he
      · rename_i q; rw [if_pos q] at hc
        obtain ⟨n, n1, n2, n3, _⟩ := rmR_up hc
        rw [n1] at he; omega
      rename_i q; rw [if_neg q] at hc
      split at he
      · rename_i q2; rw [if_pos q2] at hc
        obtain ⟨n, n1, n2, n3, _⟩ := rmR_up hc
        rw [n1] at he; omega
      · rename_i q2; rw [if_neg q2] at hc
        rw [(sh_up hc).1] at he; omega
    rw [pf_bdF h r a ha hb2, if_neg k6]
    have hrm : ∀ g, (rmR r t (bdF r t a).1 (a : Int) (bdF r t a).2 g l).c = 0 → (rmR r t (bdF r t a).1 (a : Int) (bdF r t a).2 g l).a ≤ (b : Int) → rmR r t' (bdF r t a).1 (a : Int) (bdF r t a).2 g l = rmR r t (bdF r t a).1 (a : Int) (bdF r t a).2 g l := by
      intro g hc he
      unfold rmR at hc he ⊢
      by_cases m : (rmE r t (bdF r t a).1 (a : Int) (bdF r t a).2).2.1 = 0
      · rw [if_pos m] at hc he
        simp only at he
        have u1 := rm_up r t (bdF r t a).1 (a : Int) _ m
        have u2 := rm_up2 r t (bdF r t a).1 (a : Int) k6 _ m
        rw [pf_rmE h r (bdF r t a).1 (a : Int) k6 (bdF r t a).2 m (by omega) (by omega), pf_ext h _ (show (rmE r t (bdF r t a).1 (a : Int) (bdF r t a).2).2.2.1 ≤ b by omega)]
      · rw [if_neg m] at hc; exact absurd hc m
    unfold wdR at hc he ⊢
    split
    · rename_i q; rw [if_pos q] at hc he; exact hrm _ hc he
    rename_i q; rw [if_neg q] at hc he
    split
    · rename_i q2; rw [if_pos q2] at hc he; exact hrm _ hc he
    · rfl
end Go.Proofs.YtbnldpcbdeeflaaGreatDoor
