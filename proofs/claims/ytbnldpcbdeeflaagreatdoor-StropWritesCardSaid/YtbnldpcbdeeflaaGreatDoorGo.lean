/- Each step of the scanner goes on in its text. No condition. -/
import Derived.Test.YtbnldpcbdeeflaaGreatDoorGRm
namespace Go.Proofs.YtbnldpcbdeeflaaGreatDoor
open Go.ChangeShapes Go.WideShapes Go.ChangeAt Go.RowKit

theorem cm_up (t : ByteArray) (a : Int) (i : Nat) : (cmE t a i).2.2 = 0 → ∃ k : Nat, (cmE t a i).1 = (k : Int) ∧ i < k ∧ k ≤ t.size := by
  rw [cmE]
  split
  · split
    · split
      · intro _; exact ⟨i + 1, by simp, by omega, by omega⟩
      · intro h
        obtain ⟨k, h1, h2, h3⟩ := cm_up t a (i + 1) h
        exact ⟨k, h1, by omega, h3⟩
    · intro h; simp at h
  · intro h; simp at h
termination_by t.size - i
theorem qu_up (t : ByteArray) (a : Int) (i : Nat) : (quE t a i).2.1 = 0 → i ≤ (quE t a i).2.2 ∧ (quE t a i).2.2 < t.size := by
  rw [quE]
  split
  · rename_i h
    have hl := lit_lt h
    split
    · split
      · intro h2
        have := qu_up t a (i + 1 + 1) h2
        omega
      · intro _; exact ⟨Nat.le_refl _, hl⟩
    · intro h2
      have := qu_up t a (i + 1) h2
      omega
  · rename_i h
    intro h2; exact absurd h2 h
termination_by t.size - i
theorem pk_lt {t : ByteArray} {i : Nat} {c : Int} (h : pk t i = c) (hc : c ≠ 0) : i < t.size := by
  rcases Nat.lt_or_ge i t.size with h1 | h1
  · exact h1
  · rw [pk_out h1] at h; exact absurd h.symm hc
theorem fm_up (t : ByteArray) (a : Int) (i : Nat) (wi : Bool) : (fmE t a i wi).2.1 = 0 → i ≤ (fmE t a i wi).2.2 ∧ (fmE t a i wi).2.2 < t.size := by
  rw [fmE]
  split
  · rename_i h
    intro _; exact ⟨Nat.le_refl _, pk_lt h.2 (by decide)⟩
  · split
    · rename_i h
      have hl := lit_lt h
      intro h2
      have := fm_up t a (i + 1) _ h2
      omega
    · rename_i h
      intro h2; exact absurd h2 h
termination_by t.size - i
theorem rn_ge (f : Int → Bool) (hf : f 0 = false) (r : Int) (t : ByteArray) (i e : Nat) (he : e ≤ i) : e ≤ (rn f hf r t i e).2 := by
  rcases Bool.eq_false_or_eq_true (f (ch r t i)) with h | h
  · have hlt := ch_lt hf h
    rw [rn_yes h]
    have := sk_ge t (i + 1)
    have := rn_ge f hf r t (sk t (i + 1)) (i + 1) this
    simp only
    omega
  · rw [rn_no h]; exact Nat.le_refl _
termination_by t.size - i
decreasing_by
  have := sk_ge t (i + 1)
  omega
theorem rnF_ge (f : Int → Bool) (hf : f 0 = false) (r : Int) (t : ByteArray) (a : Nat) : a ≤ (rnF f hf r t a).2 := rn_ge f hf r t _ a (sk_ge t a)
theorem rnF_gt (f : Int → Bool) (hf : f 0 = false) (r : Int) (t : ByteArray) (a : Nat) (h : f (ch r t a) = true) (hb : bBl (pk t a) = false) : a < (rnF f hf r t a).2 := by
  unfold rnF
  have hs : sk t a = a := ru_no hb
  rw [hs, rn_yes h]
  exact rn_ge f hf r t _ (a + 1) (sk_ge t (a + 1))
theorem rdF_ge (r : Int) (t : ByteArray) (a : Nat) : a ≤ (rdF r t a).2 := by
  unfold rdF
  split
  · have := sk_ge t a
    have := rnF_ge bHx bHx0 r t (sk t a + 1)
    omega
  · exact Nat.le_refl _
theorem rdF_end (r : Int) (t : ByteArray) (a : Nat) (ha : a ≤ t.size) : (rdF r t a).2 ≤ t.size := by
  unfold rdF
  split
  · rename_i h
    have := lt_of_ch h (by decide)
    exact rnF_end bHx bHx0 r t _ (by omega)
  · exact ha
theorem exS_bd (t : ByteArray) (a n : Nat) (pre : ByteArray) (q : List UInt8 × Nat) (h1 : a ≤ q.2) (h2 : q.2 ≤ n) : a ≤ (exS t a pre q).2 ∧ (exS t a pre q).2 ≤ n := by
  unfold exS
  split
  · exact ⟨Nat.le_refl _, by simp only; omega⟩
  · exact ⟨h1, h2⟩
theorem exF_bd (r : Int) (t : ByteArray) (a : Nat) (ha : a ≤ t.size) : a ≤ (exF r t a).2 ∧ (exF r t a).2 ≤ t.size := by
  unfold exF
  split
  · rename_i h
    have h1 := lt_of_ch h (by decide)
    have h2 := sk_ge t a
    have h3 := sk_ge t (sk t a + 1)
    have h4 := sk_le (t := t) (i := sk t a + 1) (by omega)
    split
    · rename_i hk
      have h5 : sk t (sk t a + 1) < t.size := by
        rcases hk with hk | hk
        · exact pk_lt hk (by decide)
        · exact pk_lt hk (by decide)
      have h6 := rnF_ge bDi bDi0 r t (sk t (sk t a + 1) + 1)
      exact exS_bd t a t.size _ _ (by omega) (rnF_end bDi bDi0 r t _ (by omega))
    · have h6 := rnF_ge bDi bDi0 r t (sk t (sk t a + 1))
      exact exS_bd t a t.size _ _ (by omega) (rnF_end bDi bDi0 r t _ (by omega))
  · exact ⟨Nat.le_refl _, ha⟩
theorem mnF_bd (r : Int) (t : ByteArray) (q : List UInt8 × Nat) (h : q.2 ≤ t.size) : q.2 ≤ (mnF r t q).2.2 ∧ (mnF r t q).2.2 ≤ t.size := by
  unfold mnF
  split
  · rename_i hk
    have h1 := pk_lt hk.1 (by decide)
    have h2 := sk_ge t q.2
    have h3 := rnF_ge bDi bDi0 r t (sk t q.2 + 1)
    exact ⟨by simp only; omega, rnF_end bDi bDi0 r t _ (by omega)⟩
  · exact ⟨Nat.le_refl _, h⟩
theorem xnF_bd (r : Int) (t : ByteArray) (m : Int × ByteArray × Nat) (h : m.2.2 ≤ t.size) : m.2.2 ≤ (xnF r t m).2.2 ∧ (xnF r t m).2.2 ≤ t.size := by
  unfold xnF
  split
  · exact ⟨Nat.le_refl _, h⟩
  · exact exF_bd r t m.2.2 h
theorem nb_bd (r : Int) (t : ByteArray) (a : Nat) (ha : a ≤ t.size) : (rnF bDi bDi0 r t a).2 ≤ (nbF r t a).2.2 ∧ (nbF r t a).2.2 ≤ t.size := by
  have hq := rnF_end bDi bDi0 r t a ha
  unfold nbF
  split
  · have h1 := mnF_bd r t _ hq
    have h2 := xnF_bd r t (mnF r t (rnF bDi bDi0 r t a)) h1.2
    exact ⟨Nat.le_trans h1.1 h2.1, h2.2⟩
  · exact ⟨rdF_ge r t _, rdF_end r t _ hq⟩
theorem di_ch {r : Int} {t : ByteArray} {a : Nat} (h : bDi (pk t a) = true) : bDi (ch r t a) = true ∧ bBl (pk t a) = false := by
  have h1 : 48 ≤ pk t a ∧ pk t a ≤ 57 := of_decide_eq_true h
  unfold ch chB
  have h2 : bCa (pk t a) = false := decide_eq_false (by omega)
  have h3 : bSd (pk t a) = true := by unfold bSd; rw [h, Bool.or_true]
  rw [h2, h3, Bool.false_and, if_neg (by decide), if_pos rfl]
  exact ⟨h, decide_eq_false (by omega)⟩
theorem pt_ch {r : Int} {t : ByteArray} {a : Nat} (h : pk t a = 46) : ch r t a = 0 ∧ sk t a = a := by
  have hb : bBl (pk t a) = false := by rw [h]; rfl
  refine ⟨?_, ru_no hb⟩
  unfold ch chB
  rw [h]
  rfl
theorem nb_up (r : Int) (t : ByteArray) (a : Nat) (ha : a < t.size) (h : bDi (pk t a) = true ∨ pk t a = 46 ∧ bDi (pk t (a + 1)) = true) : a < (nbF r t a).2.2 := by
  have h0 := nb_bd r t a (by omega)
  rcases h with h | ⟨h, k⟩
  · have h1 := di_ch (r := r) h
    have := rnF_gt bDi bDi0 r t a h1.1 h1.2
    omega
  · obtain ⟨p1, p2⟩ := pt_ch (r := r) h
    have hq : rnF bDi bDi0 r t a = ([], a) := by
      unfold rnF
      rw [p2, rn_no (by rw [p1]; rfl)]
    have hr : rdF r t a = ([], a) := by
      unfold rdF
      rw [p2, p1, if_neg (by decide)]
    unfold nbF
    rw [hq]
    simp only
    rw [hr, if_pos rfl]
    unfold mnF
    simp only
    rw [p2, if_pos ⟨h, k⟩]
    have h3 := rnF_ge bDi bDi0 r t (a + 1)
    have h4 := rnF_end bDi bDi0 r t (a + 1) (by omega)
    have h5 := (xnF_bd r t (4, ⟨([] : List UInt8).toArray⟩ ++ ⟨#[46]⟩ ++ ⟨(rnF bDi bDi0 r t (a + 1)).1.toArray⟩, (rnF bDi bDi0 r t (a + 1)).2) h4).1
    simp only at h5
    omega
theorem ru_gt (f : Int → Bool) (hf : f 0 = false) (t : ByteArray) (i : Nat) (h : f (pk t i) = true) : i < ru f hf t i := by
  rw [ru_yes h]
  exact ru_ge f hf t (i + 1)
theorem bd_up {r : Int} {t : ByteArray} {a : Nat} (h : (bdF r t a).1 ≠ ⟨#[]⟩) : a < (bdF r t a).2 := by
  unfold bdF at h ⊢
  split
  · rename_i h0
    rw [if_pos h0] at h
    split
    · rename_i h1
      exact ru_gt bCd bCd0 t a (by unfold bCd; rw [h1, Bool.true_or])
    · rename_i h1
      rw [if_neg h1] at h
      exact absurd rfl h
  · rename_i h0
    rw [if_neg h0] at h
    have h2 := ru_ge bLd bLd0 t (a + 1)
    split
    · rename_i h3
      rw [if_pos h3] at h
      split
      · simp only; omega
      · rename_i h1
        rw [if_neg h1] at h
        exact absurd rfl h
    · rename_i h3
      rw [if_neg h3] at h
      split
      · simp only; omega
      · rename_i h1
        rw [if_neg h1] at h
        exact absurd rfl h
theorem rm_up (r : Int) (t x : ByteArray) (a : Int) (i : Nat) : (rmE r t x a i).2.1 = 0 → i ≤ (rmE r t x a i).2.2.1 ∧ (rmE r t x a i).2.2.1 ≤ (rmE r t x a i).2.2.2 ∧ (rmE r t x a i).2.2.2 ≤ t.size := by
  rw [rmE]
  split
  · rename_i h0
    split
    · split
      · intro _
        have := bd_end r t i h0
        exact ⟨Nat.le_refl _, this⟩
      · intro h
        have := rm_up r t x a _ h
        omega
    · intro h; simp at h
  · intro h; simp at h
termination_by t.size - i
theorem sg_ne0 {s : List UInt8} (h : s ∈ sgs) : s.length ≠ 0 := by
  have : ∀ s ∈ sgs, s.length ≠ 0 := by decide
  exact this s h
theorem sn_up {d : List UInt8} {s : List UInt8} (h : fdS d 0 = some s) : 0 < s.length ∧ s.length ≤ d.length := by
  unfold fdS at h
  have h1 := List.mem_of_find?_eq_some h
  have h2 := List.find?_some h
  simp only [List.drop_zero] at h1
  have := sg_ne0 h1
  refine ⟨by omega, ?_⟩
  have := (List.isPrefixOf_iff_prefix.mp h2).length_le
  exact this
/-- What a step leaves. -/
def stR (r : Int) (t : ByteArray) (a : Nat) (l : List Sy) : Rs :=
  if pk t a = 35 then ⟨r, (cmE t (a : Int) (a + 1)).1, l, (cmE t (a : Int) (a + 1)).2.1, (cmE t (a : Int) (a + 1)).2.2⟩
  else if pk t a = 34 then quR r t a l
  else if pk t a = 36 then fmR r t a l
  else if bDi (pk t a) = true ∨ pk t a = 46 ∧ bDi (pk t (a + 1)) = true then nuR r t a l
  else if bSm (ch r t a) = true then shR r (a : Int) ((rnF bSd bSd0 r t a).2 : Int) 2 ⟨(rnF bSd bSd0 r t a).1.toArray⟩ l
  else if (bdF r t a).1 = ⟨#[]⟩ then snR r t a l
  else wdR r t (bdF r t a).1 (a : Int) (bdF r t a).2 l
theorem sm_bl {r : Int} {t : ByteArray} {a : Nat} (h : bSm (ch r t a) = true) : bBl (pk t a) = false := by
  cases hb : bBl (pk t a)
  · rfl
  · exfalso
    have h1 : pk t a = 9 ∨ pk t a = 10 ∨ pk t a = 32 := of_decide_eq_true hb
    unfold ch chB at h
    rcases h1 with h1 | h1 | h1 <;> rw [h1] at h <;> simp [bCa, bSd, bSm, bDi] at h
theorem sh_up {r : Int} {a : Int} {z k : Int} {x : ByteArray} {l : List Sy} (h : (shR r a z k x l).c = 0) : (shR r a z k x l).a = z ∧ (shR r a z k x l).l.length ≤ l.length + 1 := by
  unfold shR at h ⊢
  split
  · rename_i h0; rw [if_pos h0] at h; simp at h
  · exact ⟨rfl, by simp⟩
theorem rmR_up {r : Int} {t x : ByteArray} {a : Int} {f : Nat} {b : Bool} {l : List Sy} (h : (rmR r t x a f b l).c = 0) : ∃ n : Nat, (rmR r t x a f b l).a = (n : Int) ∧ f ≤ n ∧ n ≤ t.size ∧ (rmR r t x a f b l).l.length ≤ l.length + 1 := by
  unfold rmR at h ⊢
  split
  · rename_i h0
    have := rm_up r t x a f h0
    exact ⟨_, rfl, by omega, by omega, by simp⟩
  · rename_i h0; rw [if_neg h0] at h; exact absurd h h0
theorem st_up {r : Int} {t : ByteArray} {a : Nat} {l : List Sy} (ha : a < t.size) (h : (stR r t a l).c = 0) : ∃ n : Nat, (stR r t a l).a = (n : Int) ∧ a < n ∧ n ≤ t.size ∧ (stR r t a l).l.length ≤ l.length + 1 := by
  unfold stR at h ⊢
  split
  · rename_i h0
    rw [if_pos h0] at h
    obtain ⟨k, h1, h2, h3⟩ := cm_up t (a : Int) (a + 1) h
    exact ⟨k, h1, by omega, h3, by simp⟩
  rename_i h0; rw [if_neg h0] at h
  split
  · rename_i h1
    rw [if_pos h1] at h
    unfold quR at h ⊢
    split
    · rename_i h2
      have := qu_up t (a : Int) (a + 1) h2
      exact ⟨(quE t (a : Int) (a + 1)).2.2 + 1, by simp, by omega, by omega, by simp⟩
    · rename_i h2; rw [if_neg h2] at h; exact absurd h h2
  rename_i h1; rw [if_neg h1] at h
  split
  · rename_i h2
    rw [if_pos h2] at h
    unfold fmR at h ⊢
    split
    · rename_i h3
      have := fm_up t (a : Int) (a + 1) false h3
      exact ⟨(fmE t (a : Int) (a + 1) false).2.2 + 1, by simp, by omega, by omega, by simp⟩
    · rename_i h3; rw [if_neg h3] at h; exact absurd h h3
  rename_i h2; rw [if_neg h2] at h
  split
  · rename_i h3
    rw [if_pos h3] at h
    have h4 := nb_up r t a ha h3
    have h5 := nb_bd r t a (by omega)
    unfold nuR at h ⊢
    split
    · rename_i h6; rw [if_pos h6] at h; simp at h
    · rename_i h6; rw [if_neg h6] at h
      split
      · rename_i h7; rw [if_pos h7] at h; simp at h
      · exact ⟨(nbF r t a).2.2, rfl, h4, h5.2, by simp⟩
  rename_i h3; rw [if_neg h3] at h
  split
  · rename_i h4
    rw [if_pos h4] at h
    have h5 := sh_up h
    have h6 := rnF_gt bSd bSd0 r t a (by unfold bSd; rw [h4, Bool.true_or]) (sm_bl h4)
    have h7 := rnF_end bSd bSd0 r t a (by omega)
    exact ⟨_, h5.1, h6, h7, h5.2⟩
  rename_i h4; rw [if_neg h4] at h
  split
  · rename_i h5
    rw [if_pos h5] at h
    unfold snR at h ⊢
    split
    · rename_i s hs
      have := sn_up hs
      have hz : (t.data.toList.drop a).length = t.size - a := by rw [List.length_drop, Array.length_toList]; rfl
      rw [hz] at this
      exact ⟨a + s.length, by simp, by omega, by omega, by simp⟩
    · rename_i hs
      rw [hs] at h
      simp only at h
      split at h <;> omega
  · rename_i h5
    rw [if_neg h5] at h
    have hu := bd_up h5
    have he := (bd_end r t a ha).2
    unfold wdR at h ⊢
    split
    · rename_i h6
      rw [if_pos h6] at h
      obtain ⟨n, h7, h8, h9, h10⟩ := rmR_up h
      exact ⟨n, h7, by omega, h9, h10⟩
    rename_i h6
    rw [if_neg h6] at h
    split
    · rename_i h7
      rw [if_pos h7] at h
      obtain ⟨n, h8, h9, h10, h11⟩ := rmR_up h
      exact ⟨n, h8, by omega, h10, h11⟩
    · rename_i h7
      rw [if_neg h7] at h
      have h8 := sh_up h
      exact ⟨_, h8.1, hu, he, h8.2⟩
/-- The symbols from a place on: where a fault is, its code, and the list. -/
def syL (r : Int) (t : ByteArray) (a : Nat) (l : List Sy) : Int × Int × List Sy :=
  if h : a < t.size ∧ (stR r t a l).c = 0 then syL (stR r t a l).r t (sk t (stR r t a l).a.toNat) (stR r t a l).l
  else if a < t.size then ((stR r t a l).p, (stR r t a l).c, []) else (0, 0, l)
termination_by t.size - a
decreasing_by
  obtain ⟨n, h1, h2, h3, _⟩ := st_up h.1 h.2
  rw [h1, Int.toNat_natCast]
  have := sk_ge t n
  omega
end Go.Proofs.YtbnldpcbdeeflaaGreatDoor
