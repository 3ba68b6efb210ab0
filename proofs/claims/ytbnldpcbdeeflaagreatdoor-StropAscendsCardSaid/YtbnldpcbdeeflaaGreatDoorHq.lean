/- All symbols of a text read back as they are written; they ascend; beginnings of a text have the symbols before. Condition: the text is not too long. -/
import Derived.Test.YtbnldpcbdeeflaaGreatDoorHr
import Derived.Test.YtbnldpcbdeeflaaGreatDoorCs
namespace Go.Proofs.YtbnldpcbdeeflaaGreatDoor
open Go.ChangeShapes Go.WideShapes Go.ChangeAt Go.RowKit


theorem wr6' (q : Int) (x : ByteArray) : wrF 6 q x = ⟨#[34]⟩ ++ dbQ x ++ ⟨#[34]⟩ := by
  unfold wrF; rw [if_neg (by decide), if_pos rfl]
theorem wr6 (q : Int) (x : ByteArray) : wrF 6 q x = wrF 6 0 x := (wr6' q x).trans (wr6' 0 x).symm
theorem rb_string {q : Int} {x : ByteArray} (hp : ∀ c ∈ x.data.toList, bPr (c.toNat : Int) = true) : RB q 6 x := by
  obtain ⟨h4, h3, hk, _⟩ := str_step x
  have hl := str_list x
  obtain ⟨b1, b2⟩ := qu_back (wrF 6 0 x) ((0 : Nat) : Int) x.data.toList [34] hl hp
  have b1' : quE (wrF 6 0 x) ((0 : Nat) : Int) (0 + 1) = (0, 0, (wrF 6 0 x).size - 1) := b1
  have b2' : quA (wrF 6 0 x) ((0 : Nat) : Int) (0 + 1) = x.data.toList := b2
  have hq := quT_quA (t := wrF 6 0 x) (by rw [b1'])
  rw [b1', b2', mk_list] at hq
  unfold RB
  rw [wr6]
  refine ⟨?_, h3, by rw [h4]; rfl⟩
  unfold stR
  rw [if_neg (by rw [h4]; decide), if_pos h4, quR_ok b1']
  rw [show quT (wrF 6 0 x) (0 + 1) ((wrF 6 0 x).size - 1) = x from hq]
  simp only [List.nil_append]
  have e : (((wrF 6 0 x).size - 1 : Nat) : Int) + 1 = ((wrF 6 0 x).size : Int) := by omega
  rw [e]
  rfl
theorem rb_quote {q : Int} {t : ByteArray} (h : (quE t ((0 : Nat) : Int) (0 + 1)).2.1 = 0) : RB q 6 (quT t (0 + 1) (quE t ((0 : Nat) : Int) (0 + 1)).2.2) := by
  rw [quT_quA h]
  exact rb_string fun c hc => quA_pr t _ _ c hc
theorem drop_sf (t : ByteArray) {a : Nat} (ha : a ≤ t.size) : Sf (t.extract a t.size) t 0 a := by
  have h := ext_drop t a
  refine ⟨Nat.zero_le _, ?_, ?_⟩
  · have := congrArg List.length h
    rw [ba_len, List.length_drop, ba_len] at this
    omega
  · rw [h, Nat.zero_add, List.drop_zero]
/-- What a step adds reads back as it is written. -/
theorem rb_any {r q : Int} (hq : 0 ≤ q ∧ q ≤ 2) {t : ByteArray} {a : Nat} {l : List Sy} {s : Sy} (ha : a < t.size) (hc : (stR r t a l).c = 0) (hl : (stR r t a l).l = l ++ [s]) : RB q s.1 s.2.1 := by
  have hsf := drop_sf t (Nat.le_of_lt ha)
  have h1 := congrArg List.length (ext_drop t a)
  rw [ba_len, List.length_drop, ba_len] at h1
  have hs := sf_stR hsf r 0 (l := l) (l' := l) rfl (Nat.le_refl _) (by omega)
  rw [Nat.zero_add] at hs
  have hc' : (stR r (t.extract a t.size) 0 l).c = 0 := hs.c.symm.trans hc
  have hadd := st_add (r := r) (t := t.extract a t.size) (a := 0) (l := l) (by omega) hc'
  have her := hs.l
  rw [hl, er_app] at her
  rcases hadd with e | ⟨u, _, e⟩
  · rw [e] at her
    have := congrArg List.length her
    simp [er] at this
  · rw [e, er_app] at her
    have h2 := List.append_cancel_left her
    have h3 : (s.1, s.2.1) = (u.1, u.2.1) := (List.cons.inj h2).1
    rw [(Prod.mk.inj h3).1, (Prod.mk.inj h3).2]
    exact rb_step hq hc' e (fun h => rb_quote h)
theorem quA_len (t : ByteArray) (a : Int) (i : Nat) : (quA t a i).length ≤ t.size - i := by
  by_cases hl : (litF t i a).2 = 0
  · have hlt := lit_lt hl
    by_cases h34 : pk t i = 34
    · by_cases h35 : pk t (i + 1) = 34
      · have ha : quA t a i = 34 :: quA t a (i + 1 + 1) := by rw [quA, dif_pos hl, if_pos h34, if_pos h35]
        have := quA_len t a (i + 1 + 1)
        rw [ha, List.length_cons]; omega
      · have ha : quA t a i = [] := by rw [quA, dif_pos hl, if_pos h34, if_neg h35]
        rw [ha]; exact Nat.zero_le _
    · have ha : quA t a i = cu (pk t i) :: quA t a (i + 1) := by rw [quA, dif_pos hl, if_neg h34]
      have := quA_len t a (i + 1)
      rw [ha, List.length_cons]; omega
  · have ha : quA t a i = [] := by rw [quA, dif_neg hl]
    rw [ha]; exact Nat.zero_le _
termination_by t.size - i
theorem st_six {r : Int} {t : ByteArray} {a : Nat} {l : List Sy} {s : Sy} (_ha : a < t.size) (hc : (stR r t a l).c = 0) (hl : (stR r t a l).l = l ++ [s]) (h6 : s.1 = 6) : pk t a = 34 := by
  have no : ∀ {u : List Sy}, u = u ++ [s] → False := fun {u} e => by
    have := congrArg List.length e
    simp at this
  have one : ∀ {k : Int} {x : ByteArray} {p : Int}, l ++ [(k, x, p)] = l ++ [s] → k = 6 := fun {k x p} e => by
    have e2 : (k, x, p) = s := (List.cons.inj (List.append_cancel_left e)).1
    rw [← e2] at h6; exact h6
  have hsh : ∀ {a z k : Int} {x : ByteArray}, (shR r a z k x l).l = l ++ [s] → k = 6 := by
    intro a z k x hl
    unfold shR at hl
    split at hl
    · exact (no hl).elim
    · exact one hl
  have hrm : ∀ {x : ByteArray} {a : Int} {f : Nat} {b : Bool}, (rmR r t x a f b l).l = l ++ [s] → False := by
    intro x a f b e
    unfold rmR at e
    split at e <;> exact no e
  unfold stR at hc hl
  by_cases k1 : pk t a = 35
  · rw [if_pos k1] at hl; exact (no hl).elim
  rw [if_neg k1] at hc hl
  by_cases k2 : pk t a = 34
  · exact k2
  rw [if_neg k2] at hc hl
  exfalso
  split at hl
  · unfold fmR at hl
    split at hl
    · exact absurd (one hl) (by decide)
    · exact no hl
  split at hl
  · have hk := nb_kind r t a
    unfold nuR at hl
    split at hl
    · exact no hl
    split at hl
    · exact no hl
    · have := one hl; omega
  split at hl
  · exact absurd (hsh hl) (by decide)
  split at hl
  · unfold snR at hl
    split at hl
    · exact absurd (one hl) (by decide)
    · exact no hl
  · unfold wdR at hl
    split at hl
    · exact hrm hl
    split at hl
    · exact hrm hl
    · exact absurd (hsh hl) (by decide)
/-- A symbol's text is no longer than the text. -/
theorem st_size {r : Int} {t : ByteArray} {a : Nat} {l : List Sy} {s : Sy} (ha : a < t.size) (hc : (stR r t a l).c = 0) (hl : (stR r t a l).l = l ++ [s]) : s.2.1.size ≤ t.size := by
  obtain ⟨n, h1, _, h3, _⟩ := st_up ha hc
  obtain ⟨f1, f2, f3⟩ := st_fit ha hc hl
  by_cases h6 : s.1 = 6
  · have no : ∀ {u : List Sy}, u = u ++ [s] → False := fun {u} e => by
      have := congrArg List.length e
      simp at this
    by_cases k2 : pk t a = 34
    · have hst : stR r t a l = quR r t a l := by unfold stR; rw [if_neg (by rw [k2]; decide), if_pos k2]
      rw [hst] at hc hl
      unfold quR at hc hl
      split at hc
      · rename_i h; rw [if_pos h] at hl
        have e : s = (6, quT t (a + 1) (quE t (a : Int) (a + 1)).2.2, (a : Int)) := ((List.cons.inj (List.append_cancel_left hl)).1).symm
        rw [e]
        have h5 : quT t (a + 1) (quE t (a : Int) (a + 1)).2.2 = ⟨(quA t (a : Int) (a + 1)).toArray⟩ := by
          unfold quT
          rw [qu_ra t (a : Int) (a + 1) h]
        have h6 := quA_len t (a : Int) (a + 1)
        show (quT t (a + 1) (quE t (a : Int) (a + 1)).2.2).size ≤ _
        rw [h5, size_of]
        omega
      · rename_i h; exact absurd hc h
    · exact absurd (st_six ha hc hl h6) k2
  · by_cases h7 : s.1 = 7
    · have := f3 h7; omega
    · have := f2 h6 h7; omega
/-- All symbols of a text. -/
theorem rb_all {r : Int} {t : ByteArray} (h : (syF r t).2.1 = 0) : ∀ s ∈ (syF r t).2.2, s = (0, ⟨#[]⟩, (t.size : Int)) ∨ (Kd s ∧ s.2.1.size ≤ t.size ∧ ∀ q, 0 ≤ q ∧ q ≤ 2 → RB q s.1 s.2.1) := by
  obtain ⟨h1, h2, h3, h4⟩ := syF_ok h
  intro s hs
  rw [h4] at hs
  rcases List.mem_append.1 hs with hs | hs
  · right
    have hkd := sy_all t t.size (sk t 0) r [] (by omega) (fun s hs => by cases hs) s hs
    obtain ⟨i, hi⟩ := List.getElem?_of_mem hs
    have hil := (List.getElem?_eq_some_iff.1 hi).1
    obtain ⟨r', b, l', u, g1, g2, g3, g4, g5, g6, g7⟩ := vis_at t t.size (sk t 0) r [] (by omega) h3 i (Nat.zero_le _) hil
    rw [hi] at g4
    obtain rfl := Option.some.inj g4
    exact ⟨hkd, st_size g1 g6 g7, fun q hq => rb_any hq g1 g6 g7⟩
  · exact Or.inl (List.mem_singleton.1 hs)
/-- Check answers OK. -/
theorem ch_rb {k : Int} {x : ByteArray} (hk : 0 ≤ k ∧ k ≤ 8) (hz : (wrF k 0 x).size ≤ 65536) (h : RB 0 k x) : chF k x = 0 := by
  obtain ⟨h1, h2, h3⟩ := h
  have hs : sk (wrF k 0 x) 0 = 0 := ru_no h3
  have he : syL 0 (wrF k 0 x) 0 [] = (0, 0, [(k, x, 0)]) := by
    rw [sy_go h2 (by rw [h1]) (n := (wrF k 0 x).size) (by rw [h1]), sy_end (sk_ge _ _), h1]
  refine ch_of hk (q := 0) (rest := [(0, ⟨#[]⟩, ((wrF k 0 x).size : Int))]) ?_
  rw [syF_mk ⟨Int.le_refl _, by decide⟩ hz (by rw [hs, he]), hs, he]
  rfl
theorem ch_all {r : Int} {t : ByteArray} (h : (syF r t).2.1 = 0) (hz : t.size ≤ 20000) : ∀ s ∈ (syF r t).2.2, chF s.1 s.2.1 = 0 := by
  intro s hs
  rcases rb_all h s hs with e | ⟨k1, k2, k3⟩
  · rw [e]
    show chF 0 ⟨#[]⟩ = 0
    rw [ch_end, if_pos rfl]
  · have h5 := wrF_size s.1 0 s.2.1
    exact ch_rb ⟨by have := k1.1; omega, k1.2.1⟩ (by omega) (k3 0 ⟨Int.le_refl _, by decide⟩)


theorem asc_last {r : Int} {t : ByteArray} (h : (syF r t).2.1 = 0) : (syF r t).2.2[(syF r t).2.2.length - 1]? = some (0, ⟨#[]⟩, (t.size : Int)) ∧ 0 < (syF r t).2.2.length := by
  obtain ⟨_, _, _, h4⟩ := syF_ok h
  rw [h4]
  simp
theorem asc_kind {r : Int} {t : ByteArray} (h : (syF r t).2.1 = 0) (i : Nat) (s : Sy) (hs : (syF r t).2.2[i]? = some s) : s.1 = 0 ↔ i = (syF r t).2.2.length - 1 := by
  obtain ⟨_, _, h3, h4⟩ := syF_ok h
  rw [h4] at hs ⊢
  simp only [List.length_append, List.length_singleton, Nat.add_sub_cancel] at hs ⊢
  rcases Nat.lt_or_ge i (syL r t (sk t 0) []).2.2.length with hl | hl
  · rw [List.getElem?_append_left hl] at hs
    have hkd := sy_all t t.size (sk t 0) r [] (by omega) (fun s hs => by cases hs) s (List.mem_of_getElem? hs)
    have := hkd.1
    constructor
    · intro k; omega
    · intro k; omega
  · have hil := (List.getElem?_eq_some_iff.1 hs).1
    simp only [List.length_append, List.length_singleton] at hil
    have he : i = (syL r t (sk t 0) []).2.2.length := by omega
    rw [he, List.getElem?_append_right (Nat.le_refl _), Nat.sub_self] at hs
    have e : (0, ⟨#[]⟩, (t.size : Int)) = s := Option.some.inj hs
    rw [← e]
    exact ⟨fun _ => he, fun _ => rfl⟩
theorem ext_size (t : ByteArray) {b : Nat} (hb : b ≤ t.size) : (t.extract 0 b).size = b := by rw [ByteArray.size_extract]; omega
theorem asc_at {r : Int} {t : ByteArray} (h : (syF r t).2.1 = 0) (i : Nat) (s : Sy) (hs : (syF r t).2.2[i]? = some s) :
    ∃ b : Nat, s.2.2 = (b : Int) ∧ b ≤ t.size ∧ syF r (t.extract 0 b) = (0, 0, (syF r t).2.2.take i ++ [(0, ⟨#[]⟩, (b : Int))]) ∧ ∀ u, 1 ≤ i → (syF r t).2.2[i - 1]? = some u → u.2.2 < s.2.2 := by
  have hil := (List.getElem?_eq_some_iff.1 hs).1
  obtain ⟨r', b, k1, k2, _, _⟩ := sy_place h i hil
  have k2' := k2
  rw [hs] at k2
  have hb : s.2.2 = (b : Int) := Option.some.inj k2
  have hp := pre_any h i b hil k2'
  refine ⟨b, hb, k1, hp, ?_⟩
  intro u hi hu
  have hp0 : (syF r (t.extract 0 b)).2.1 = 0 := by rw [hp]
  obtain ⟨_, _, g3, g4⟩ := syF_ok hp0
  rw [hp] at g4
  have hz := ext_size t k1
  have hl : (syF r t).2.2.take i = (syL r (t.extract 0 b) (sk (t.extract 0 b) 0) []).2.2 := by
    have g5 := (Prod.mk.inj (Prod.mk.inj g4).2).2
    rw [hz] at g5
    exact List.append_cancel_right g5
  have hlen : (i - 1) < (syL r (t.extract 0 b) (sk (t.extract 0 b) 0) []).2.2.length := by
    rw [← hl, List.length_take]; omega
  obtain ⟨r2, b2, l2, u2, m1, _, _, m4, m5, _, _⟩ := vis_at (t.extract 0 b) (t.extract 0 b).size (sk (t.extract 0 b) 0) r [] (by omega) g3 (i - 1) (Nat.zero_le _) hlen
  rw [← hl, List.getElem?_take, if_pos (by omega), hu] at m4
  obtain rfl := Option.some.inj m4
  rw [hb, m5]
  omega
theorem bad_list {r : Int} {t : ByteArray} (h : (syF r t).2.1 ≠ 0) : (syF r t).2.2 = [] := by
  unfold syF at h ⊢
  split
  · rename_i h1; rw [if_pos h1] at h
    split
    · rename_i h2; rw [if_pos h2] at h
      split
      · rename_i h3; rw [if_pos h3] at h; exact absurd rfl h
      · rfl
    · rfl
  · rfl
end Go.Proofs.YtbnldpcbdeeflaaGreatDoor
