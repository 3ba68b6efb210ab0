/- All symbols of a text read back as they are written, one by one and together; they ascend; beginnings of a text have the symbols before. Condition: the text is not too long. -/
import Derived.Test.YtbnldpcbdeeflaaGreatDoorHr
import Derived.Test.YtbnldpcbdeeflaaGreatDoorCs
namespace Go.Proofs.YtbnldpcbdeeflaaGreatDoor
open Go.ChangeShapes Go.WideShapes Go.ChangeAt Go.RowKit



theorem wr6' (q : Int) (x : ByteArray) : wrF 6 q x = ⟨#[34]⟩ ++ dbQ x ++ ⟨#[34]⟩ := by
  unfold wrF; rw [if_neg (by decide), if_pos rfl]
theorem wr6 (q : Int) (x : ByteArray) : wrF 6 q x = wrF 6 0 x := (wr6' q x).trans (wr6' 0 x).symm
theorem rb_string {q : Int} {x : ByteArray} (hp : ∀ c ∈ x.data.toList, bPr (c.toNat : Int) = true) : RB q 6 x := by
  obtain ⟨h4, h3, hk, _⟩ := str_step x
  have hl := str_list x
  obtain ⟨b1, b2⟩ := qu_back (wrF 6 0 x) ((0 : Nat) : Int) x.data.toList [34] hl hp
  have b1' : quE (wrF 6 0 x) ((0 : Nat) : Int) (0 + 1) = (0, 0, (wrF 6 0 x).size - 1) := b1
  have b2' : quA (wrF 6 0 x) ((0 : Nat) : Int) (0 + 1) = x.data.toList := b2
  have hq := quT_quA (t := wrF 6 0 x) (by rw [b1'])
  rw [b1', b2', mk_list] at hq
  unfold RB
  rw [wr6]
  refine ⟨?_, h3, by rw [h4]; rfl⟩
  unfold stR
  rw [if_neg (by rw [h4]; decide), if_pos h4, quR_ok b1']
  rw [show quT (wrF 6 0 x) (0 + 1) ((wrF 6 0 x).size - 1) = x from hq]
  simp only [List.nil_append]
  have e : (((wrF 6 0 x).size - 1 : Nat) : Int) + 1 = ((wrF 6 0 x).size : Int) := by omega
  rw [e]
  rfl
theorem rb_quote {q : Int} {t : ByteArray} (h : (quE t ((0 : Nat) : Int) (0 + 1)).2.1 = 0) : RB q 6 (quT t (0 + 1) (quE t ((0 : Nat) : Int) (0 + 1)).2.2) := by
  rw [quT_quA h]
  exact rb_string fun c hc => quA_pr t _ _ c hc
theorem drop_sf (t : ByteArray) {a : Nat} (ha : a ≤ t.size) : Sf (t.extract a t.size) t 0 a := by
  have h := ext_drop t a
  refine ⟨Nat.zero_le _, ?_, ?_⟩
  · have := congrArg List.length h
    rw [ba_len, List.length_drop, ba_len] at this
    omega
  · rw [h, Nat.zero_add, List.drop_zero]
/-- What a step adds reads back as it is written. -/
theorem rb_any {r q : Int} (hq : 0 ≤ q ∧ q ≤ 2) {t : ByteArray} {a : Nat} {l : List Sy} {s : Sy} (ha : a < t.size) (hc : (stR r t a l).c = 0) (hl : (stR r t a l).l = l ++ [s]) : RB q s.1 s.2.1 := by
  have hsf := drop_sf t (Nat.le_of_lt ha)
  have h1 := congrArg List.length (ext_drop t a)
  rw [ba_len, List.length_drop, ba_len] at h1
  have hs := sf_stR hsf r 0 (l := l) (l' := l) rfl (Nat.le_refl _) (by omega)
  rw [Nat.zero_add] at hs
  have hc' : (stR r (t.extract a t.size) 0 l).c = 0 := hs.c.symm.trans hc
  have hadd := st_add (r := r) (t := t.extract a t.size) (a := 0) (l := l) (by omega) hc'
  have her := hs.l
  rw [hl, er_app] at her
  rcases hadd with e | ⟨u, _, e⟩
  · rw [e] at her
    have := congrArg List.length her
    simp [er] at this
  · rw [e, er_app] at her
    have h2 := List.append_cancel_left her
    have h3 : (s.1, s.2.1) = (u.1, u.2.1) := (List.cons.inj h2).1
    rw [(Prod.mk.inj h3).1, (Prod.mk.inj h3).2]
    exact rb_step hq hc' e (fun h => rb_quote h)
theorem quA_len (t : ByteArray) (a : Int) (i : Nat) : (quA t a i).length ≤ t.size - i := by
  by_cases hl : (litF t i a).2 = 0
  · have hlt := lit_lt hl
    by_cases h34 : pk t i = 34
    · by_cases h35 : pk t (i + 1) = 34
      · have ha : quA t a i = 34 :: quA t a (i + 1 + 1) := by rw [quA, dif_pos hl, if_pos h34, if_pos h35]
        have := quA_len t a (i + 1 + 1)
        rw [ha, List.length_cons]; omega
      · have ha : quA t a i = [] := by rw [quA, dif_pos hl, if_pos h34, if_neg h35]
        rw [ha]; exact Nat.zero_le _
    · have ha : quA t a i = cu (pk t i) :: quA t a (i + 1) := by rw [quA, dif_pos hl, if_neg h34]
      have := quA_len t a (i + 1)
      rw [ha, List.length_cons]; omega
  · have ha : quA t a i = [] := by rw [quA, dif_neg hl]
    rw [ha]; exact Nat.zero_le _
termination_by t.size - i
theorem st_six {r : Int} {t : ByteArray} {a : Nat} {l : List Sy} {s : Sy} (_ha : a < t.size) (hc : (stR r t a l).c = 0) (hl : (stR r t a l).l = l ++ [s]) (h6 : s.1 = 6) : pk t a = 34 := by
  have no : ∀ {u : List Sy}, u = u ++ [s] → False := fun {u} e => by
    have := congrArg List.length e
    simp at this
  have one : ∀ {k : Int} {x : ByteArray} {p : Int}, l ++ [(k, x, p)] = l ++ [s] → k = 6 := fun {k x p} e => by
    have e2 : (k, x, p) = s := (List.cons.inj (List.append_cancel_left e)).1
    rw [← e2] at h6; exact h6
  have hsh : ∀ {a z k : Int} {x : ByteArray}, (shR r a z k x l).l = l ++ [s] → k = 6 := by
    intro a z k x hl
    unfold shR at hl
    split at hl
    · exact (no hl).elim
    · exact one hl
  have hrm : ∀ {x : ByteArray} {a : Int} {f : Nat} {b : Bool}, (rmR r t x a f b l).l = l ++ [s] → False := by
    intro x a f b e
    unfold rmR at e
    split at e <;> exact no e
  unfold stR at hc hl
  by_cases k1 : pk t a = 35
  · rw [if_pos k1] at hl; exact (no hl).elim
  rw [if_neg k1] at hc hl
  by_cases k2 : pk t a = 34
  · exact k2
  rw [if_neg k2] at hc hl
  exfalso
  split at hl
  · unfold fmR at hl
    split at hl
    · exact absurd (one hl) (by decide)
    · exact no hl
  split at hl
  · have hk := nb_kind r t a
    unfold nuR at hl
    split at hl
    · exact no hl
    split at hl
    · exact no hl
    · have := one hl; omega
  split at hl
  · exact absurd (hsh hl) (by decide)
  split at hl
  · unfold snR at hl
    split at hl
    · exact absurd (one hl) (by decide)
    · exact no hl
  · unfold wdR at hl
    split at hl
    · exact hrm hl
    split at hl
    · exact hrm hl
    · exact absurd (hsh hl) (by decide)
/-- A symbol's text is no longer than the text. -/
theorem st_size {r : Int} {t : ByteArray} {a : Nat} {l : List Sy} {s : Sy} (ha : a < t.size) (hc : (stR r t a l).c = 0) (hl : (stR r t a l).l = l ++ [s]) : s.2.1.size ≤ t.size := by
  obtain ⟨n, h1, _, h3, _⟩ := st_up ha hc
  obtain ⟨f1, f2, f3⟩ := st_fit ha hc hl
  by_cases h6 : s.1 = 6
  · have no : ∀ {u : List Sy}, u = u ++ [s] → False := fun {u} e => by
      have := congrArg List.length e
      simp at this
    by_cases k2 : pk t a = 34
    · have hst : stR r t a l = quR r t a l := by unfold stR; rw [if_neg (by rw [k2]; decide), if_pos k2]
      rw [hst] at hc hl
      unfold quR at hc hl
      split at hc
      · rename_i h; rw [if_pos h] at hl
        have e : s = (6, quT t (a + 1) (quE t (a : Int) (a + 1)).2.2, (a : Int)) := ((List.cons.inj (List.append_cancel_left hl)).1).symm
        rw [e]
        have h5 : quT t (a + 1) (quE t (a : Int) (a + 1)).2.2 = ⟨(quA t (a : Int) (a + 1)).toArray⟩ := by
          unfold quT
          rw [qu_ra t (a : Int) (a + 1) h]
        have h6 := quA_len t (a : Int) (a + 1)
        show (quT t (a + 1) (quE t (a : Int) (a + 1)).2.2).size ≤ _
        rw [h5, size_of]
        omega
      · rename_i h; exact absurd hc h
    · exact absurd (st_six ha hc hl h6) k2
  · by_cases h7 : s.1 = 7
    · have := f3 h7; omega
    · have := f2 h6 h7; omega
/-- All symbols of a text. -/
theorem rb_all {r : Int} {t : ByteArray} (h : (syF r t).2.1 = 0) : ∀ s ∈ (syF r t).2.2, s = (0, ⟨#[]⟩, (t.size : Int)) ∨ (Kd s ∧ s.2.1.size ≤ t.size ∧ ∀ q, 0 ≤ q ∧ q ≤ 2 → RB q s.1 s.2.1) := by
  obtain ⟨h1, h2, h3, h4⟩ := syF_ok h
  intro s hs
  rw [h4] at hs
  rcases List.mem_append.1 hs with hs | hs
  · right
    have hkd := sy_all t t.size (sk t 0) r [] (by omega) (fun s hs => by cases hs) s hs
    obtain ⟨i, hi⟩ := List.getElem?_of_mem hs
    have hil := (List.getElem?_eq_some_iff.1 hi).1
    obtain ⟨r', b, l', u, g1, g2, g3, g4, g5, g6, g7⟩ := vis_at t t.size (sk t 0) r [] (by omega) h3 i (Nat.zero_le _) hil
    rw [hi] at g4
    obtain rfl := Option.some.inj g4
    exact ⟨hkd, st_size g1 g6 g7, fun q hq => rb_any hq g1 g6 g7⟩
  · exact Or.inl (List.mem_singleton.1 hs)
/-- Check answers OK. -/
theorem ch_rb {k : Int} {x : ByteArray} (hk : 0 ≤ k ∧ k ≤ 8) (hz : (wrF k 0 x).size ≤ 65536) (h : RB 0 k x) : chF k x = 0 := by
  obtain ⟨h1, h2, h3⟩ := h
  have hs : sk (wrF k 0 x) 0 = 0 := ru_no h3
  have he : syL 0 (wrF k 0 x) 0 [] = (0, 0, [(k, x, 0)]) := by
    rw [sy_go h2 (by rw [h1]) (n := (wrF k 0 x).size) (by rw [h1]), sy_end (sk_ge _ _), h1]
  refine ch_of hk (q := 0) (rest := [(0, ⟨#[]⟩, ((wrF k 0 x).size : Int))]) ?_
  rw [syF_mk ⟨Int.le_refl _, by decide⟩ hz (by rw [hs, he]), hs, he]
  rfl
theorem ch_all {r : Int} {t : ByteArray} (h : (syF r t).2.1 = 0) (hz : t.size ≤ 20000) : ∀ s ∈ (syF r t).2.2, chF s.1 s.2.1 = 0 := by
  intro s hs
  rcases rb_all h s hs with e | ⟨k1, k2, k3⟩
  · rw [e]
    show chF 0 ⟨#[]⟩ = 0
    rw [ch_end, if_pos rfl]
  · have h5 := wrF_size s.1 0 s.2.1
    exact ch_rb ⟨by have := k1.1; omega, k1.2.1⟩ (by omega) (k3 0 ⟨Int.le_refl _, by decide⟩)


theorem asc_last {r : Int} {t : ByteArray} (h : (syF r t).2.1 = 0) : (syF r t).2.2[(syF r t).2.2.length - 1]? = some (0, ⟨#[]⟩, (t.size : Int)) ∧ 0 < (syF r t).2.2.length := by
  obtain ⟨_, _, _, h4⟩ := syF_ok h
  rw [h4]
  simp
theorem asc_kind {r : Int} {t : ByteArray} (h : (syF r t).2.1 = 0) (i : Nat) (s : Sy) (hs : (syF r t).2.2[i]? = some s) : s.1 = 0 ↔ i = (syF r t).2.2.length - 1 := by
  obtain ⟨_, _, h3, h4⟩ := syF_ok h
  rw [h4] at hs ⊢
  simp only [List.length_append, List.length_singleton, Nat.add_sub_cancel] at hs ⊢
  rcases Nat.lt_or_ge i (syL r t (sk t 0) []).2.2.length with hl | hl
  · rw [List.getElem?_append_left hl] at hs
    have hkd := sy_all t t.size (sk t 0) r [] (by omega) (fun s hs => by cases hs) s (List.mem_of_getElem? hs)
    have := hkd.1
    constructor
    · intro k; omega
    · intro k; omega
  · have hil := (List.getElem?_eq_some_iff.1 hs).1
    simp only [List.length_append, List.length_singleton] at hil
    have he : i = (syL r t (sk t 0) []).2.2.length := by omega
    rw [he, List.getElem?_append_right (Nat.le_refl _), Nat.sub_self] at hs
    have e : (0, ⟨#[]⟩, (t.size : Int)) = s := Option.some.inj hs
    rw [← e]
    exact ⟨fun _ => he, fun _ => rfl⟩
theorem ext_size (t : ByteArray) {b : Nat} (hb : b ≤ t.size) : (t.extract 0 b).size = b := by rw [ByteArray.size_extract]; omega
theorem asc_at {r : Int} {t : ByteArray} (h : (syF r t).2.1 = 0) (i : Nat) (s : Sy) (hs : (syF r t).2.2[i]? = some s) :
    ∃ b : Nat, s.2.2 = (b : Int) ∧ b ≤ t.size ∧ syF r (t.extract 0 b) = (0, 0, (syF r t).2.2.take i ++ [(0, ⟨#[]⟩, (b : Int))]) ∧ ∀ u, 1 ≤ i → (syF r t).2.2[i - 1]? = some u → u.2.2 < s.2.2 := by
  have hil := (List.getElem?_eq_some_iff.1 hs).1
  obtain ⟨r', b, k1, k2, _, _⟩ := sy_place h i hil
  have k2' := k2
  rw [hs] at k2
  have hb : s.2.2 = (b : Int) := Option.some.inj k2
  have hp := pre_any h i b hil k2'
  refine ⟨b, hb, k1, hp, ?_⟩
  intro u hi hu
  have hp0 : (syF r (t.extract 0 b)).2.1 = 0 := by rw [hp]
  obtain ⟨_, _, g3, g4⟩ := syF_ok hp0
  rw [hp] at g4
  have hz := ext_size t k1
  have hl : (syF r t).2.2.take i = (syL r (t.extract 0 b) (sk (t.extract 0 b) 0) []).2.2 := by
    have g5 := (Prod.mk.inj (Prod.mk.inj g4).2).2
    rw [hz] at g5
    exact List.append_cancel_right g5
  have hlen : (i - 1) < (syL r (t.extract 0 b) (sk (t.extract 0 b) 0) []).2.2.length := by
    rw [← hl, List.length_take]; omega
  obtain ⟨r2, b2, l2, u2, m1, _, _, m4, m5, _, _⟩ := vis_at (t.extract 0 b) (t.extract 0 b).size (sk (t.extract 0 b) 0) r [] (by omega) g3 (i - 1) (Nat.zero_le _) hlen
  rw [← hl, List.getElem?_take, if_pos (by omega), hu] at m4
  obtain rfl := Option.some.inj m4
  rw [hb, m5]
  omega
theorem bad_list {r : Int} {t : ByteArray} (h : (syF r t).2.1 ≠ 0) : (syF r t).2.2 = [] := by
  unfold syF at h ⊢
  split
  · rename_i h1; rw [if_pos h1] at h
    split
    · rename_i h2; rw [if_pos h2] at h
      split
      · rename_i h3; rw [if_pos h3] at h; exact absurd rfl h
      · rfl
    · rfl
  · rfl


theorem stR_l (r : Int) (t : ByteArray) (a : Nat) (l : List Sy) : stR r t a l = ⟨(stR r t a []).r, (stR r t a []).a, l ++ (stR r t a []).l, (stR r t a []).p, (stR r t a []).c⟩ := by
  have hsh : ∀ (z k : Int) (x : ByteArray) (q : Int), shR r q z k x l = ⟨(shR r q z k x []).r, (shR r q z k x []).a, l ++ (shR r q z k x []).l, (shR r q z k x []).p, (shR r q z k x []).c⟩ := by
    intro z k x q
    unfold shR
    split <;> simp
  have hrm : ∀ (x : ByteArray) (q : Int) (f : Nat) (b : Bool), rmR r t x q f b l = ⟨(rmR r t x q f b []).r, (rmR r t x q f b []).a, l ++ (rmR r t x q f b []).l, (rmR r t x q f b []).p, (rmR r t x q f b []).c⟩ := by
    intro x q f b
    unfold rmR
    split <;> simp
  unfold stR
  split
  · simp
  split
  · unfold quR; split <;> simp
  split
  · unfold fmR; split <;> simp
  split
  · unfold nuR
    split
    · simp
    split <;> simp
  split
  · exact hsh _ _ _ _
  split
  · unfold snR; split <;> simp
  · unfold wdR
    split
    · exact hrm _ _ _ _
    split
    · exact hrm _ _ _ _
    · exact hsh _ _ _ _
/-- How a symbol that is no tag and no number begins. -/
theorem rb_first {q k : Int} {x : ByteArray} (h : RB q k x) (hk : opn k = false) : ch q (wrF k q x) 0 = 0 ∧ ¬ (pk (wrF k q x) 0 = 46 ∧ bDi (pk (wrF k q x) (0 + 1)) = true) := by
  obtain ⟨h1, _, _⟩ := h
  have hl : (stR q (wrF k q x) 0 []).l = [(k, x, 0)] := by rw [h1]
  have hc : (stR q (wrF k q x) 0 []).c = 0 := by rw [h1]
  have hk2 : ¬ (2 ≤ k ∧ k ≤ 5) := of_decide_eq_false hk
  generalize wrF k q x = w at hl hc
  clear h1
  by_cases e1 : pk w 0 = 35
  · exact ⟨by unfold ch; rw [e1]; unfold chB; rfl, by rw [e1]; rintro ⟨k, _⟩; exact absurd k (by decide)⟩
  by_cases e2 : pk w 0 = 34
  · exact ⟨by unfold ch; rw [e2]; unfold chB; rfl, by rw [e2]; rintro ⟨k, _⟩; exact absurd k (by decide)⟩
  by_cases e3 : pk w 0 = 36
  · exact ⟨by unfold ch; rw [e3]; unfold chB; rfl, by rw [e3]; rintro ⟨k, _⟩; exact absurd k (by decide)⟩
  unfold stR at hl hc
  rw [if_neg e1, if_neg e2, if_neg e3] at hl hc
  by_cases e4 : bDi (pk w 0) = true ∨ pk w 0 = 46 ∧ bDi (pk w (0 + 1)) = true
  · exfalso
    rw [if_pos e4] at hl hc
    have hn := nb_kind q w 0
    unfold nuR at hl
    split at hl
    · cases hl
    split at hl
    · cases hl
    · have hl2 : ([((nbF q w 0).1, (nbF q w 0).2.1, ((0 : Nat) : Int))] : List Sy) = [(k, x, 0)] := hl
      have : (nbF q w 0).1 = k := (Prod.mk.inj (List.cons.inj hl2).1).1
      omega
  by_cases e5 : bSm (ch q w 0) = true
  · exfalso
    rw [if_neg e4, if_pos e5] at hl hc
    unfold shR at hl
    split at hl
    · cases hl
    · have hl2 : ([(2, ⟨(rnF bSd bSd0 q w 0).1.toArray⟩, ((0 : Nat) : Int))] : List Sy) = [(k, x, 0)] := hl
      have : (2 : Int) = k := (Prod.mk.inj (List.cons.inj hl2).1).1
      omega
  refine ⟨?_, fun k => e4 (Or.inr k)⟩
  by_cases h0 : ch q w 0 = 0
  · exact h0
  · exfalso
    have hs := chb_sd (r := q) (c := pk w 0) h0
    have hs2 : bSd (ch q w 0) = true := hs
    unfold bSd at hs2
    rw [Bool.or_eq_true] at hs2
    rcases hs2 with k | k
    · exact e5 k
    · refine e4 (Or.inl ?_)
      have hd := of_decide_eq_true k
      unfold ch chB at hd k
      split at hd
      · rename_i hca
        rw [Bool.and_eq_true] at hca
        have := of_decide_eq_true hca.1
        omega
      · rename_i hca
        rw [if_neg hca] at k
        split at k
        · exact k
        · cases k
/-- What Text writes, from its end. -/
def txS (r : Int) : List Sy → List UInt8
  | [] => []
  | [s] => (wrF s.1 r s.2.1).data.toList
  | s :: u :: K => (wrF s.1 r s.2.1).data.toList ++ (spF s.1 u.1).data.toList ++ txS r (u :: K)
theorem txS_snoc (r : Int) (s u : Sy) : ∀ K : List Sy, txS r (K ++ [s] ++ [u]) = txS r (K ++ [s]) ++ (spF s.1 u.1).data.toList ++ (wrF u.1 r u.2.1).data.toList
  | [] => rfl
  | [v] => by
    show txS r (v :: s :: [u]) = txS r (v :: [s]) ++ _ ++ _
    simp only [txS, List.append_assoc]
  | v :: v2 :: K => by
    have ih := txS_snoc r s u (v2 :: K)
    show txS r (v :: v2 :: (K ++ [s] ++ [u])) = txS r (v :: v2 :: (K ++ [s])) ++ _ ++ _
    have e1 : txS r (v :: v2 :: (K ++ [s] ++ [u])) = (wrF v.1 r v.2.1).data.toList ++ (spF v.1 v2.1).data.toList ++ txS r (v2 :: (K ++ [s] ++ [u])) := rfl
    have e2 : txS r (v :: v2 :: (K ++ [s])) = (wrF v.1 r v.2.1).data.toList ++ (spF v.1 v2.1).data.toList ++ txS r (v2 :: (K ++ [s])) := rfl
    have ih2 : txS r (v2 :: (K ++ [s] ++ [u])) = txS r (v2 :: (K ++ [s])) ++ (spF s.1 u.1).data.toList ++ (wrF u.1 r u.2.1).data.toList := ih
    rw [e1, e2, ih2]
    simp only [List.append_assoc]
theorem txB_S (r : Int) (l : List Sy) : ∀ i, i + 1 ≤ l.length → txB r l (i + 1) = txS r (l.take (i + 1))
  | 0, h => by
    obtain ⟨s, K, rfl⟩ : ∃ s K, l = s :: K := by cases l with | nil => simp at h | cons s K => exact ⟨s, K, rfl⟩
    rw [txB_one]
    rfl
  | i + 1, h => by
    have ih := txB_S r l i (by omega)
    obtain ⟨s, hs⟩ : ∃ s, l[i]? = some s := ⟨l[i], List.getElem?_eq_getElem (by omega)⟩
    obtain ⟨u, hu⟩ : ∃ u, l[i + 1]? = some u := ⟨l[i + 1], List.getElem?_eq_getElem (by omega)⟩
    have e1 : l.take (i + 1) = l.take i ++ [s] := by rw [List.take_add_one, hs]; rfl
    have e2 : l.take (i + 1 + 1) = l.take i ++ [s] ++ [u] := by rw [List.take_add_one, hu, e1]; rfl
    rw [txB_more, ih, e2, e1, txS_snoc, sA_eq hs, sA_eq hu]
theorem txS_pk {r : Int} {t : ByteArray} {s : Sy} {K : List Sy} (ht : t.data.toList = txS r (s :: K)) (h : 0 < (wrF s.1 r s.2.1).size) : pk t 0 = pk (wrF s.1 r s.2.1) 0 := by
  have hl : 0 < (wrF s.1 r s.2.1).data.toList.length := by rw [ba_len]; exact h
  rw [pk_get, pk_get, ht]
  cases K with
  | nil => rfl
  | cons u K =>
    show (Option.map _ ((wrF s.1 r s.2.1).data.toList ++ (spF s.1 u.1).data.toList ++ txS r (u :: K))[0]?).getD 0 = _
    rw [List.append_assoc, List.getElem?_append_left hl]
theorem txS_pk1 {r : Int} {t : ByteArray} {s : Sy} {K : List Sy} (ht : t.data.toList = txS r (s :: K)) (h : pk (wrF s.1 r s.2.1) 0 = 46) (hd : bDi (pk t (0 + 1)) = true) : bDi (pk (wrF s.1 r s.2.1) (0 + 1)) = true := by
  have h0 : 0 < (wrF s.1 r s.2.1).size := pk_lt h (by decide)
  rcases Nat.lt_or_ge 1 (wrF s.1 r s.2.1).size with h1 | h1
  · have hl : 1 < (wrF s.1 r s.2.1).data.toList.length := by rw [ba_len]; exact h1
    have : pk t 1 = pk (wrF s.1 r s.2.1) 1 := by
      rw [pk_get, pk_get, ht]
      cases K with
      | nil => rfl
      | cons u K =>
        show (Option.map _ ((wrF s.1 r s.2.1).data.toList ++ (spF s.1 u.1).data.toList ++ txS r (u :: K))[1]?).getD 0 = _
        rw [List.append_assoc, List.getElem?_append_left hl]
    rw [Nat.zero_add, this] at hd
    exact hd
  · exfalso
    have hl : (wrF s.1 r s.2.1).data.toList.length = 1 := by rw [ba_len]; omega
    rw [Nat.zero_add, pk_get, ht] at hd
    cases K with
    | nil =>
      have : (txS r [s])[1]? = none := List.getElem?_eq_none (by show (wrF s.1 r s.2.1).data.toList.length ≤ 1; omega)
      rw [this] at hd; cases hd
    | cons u K =>
      have e : (txS r (s :: u :: K))[1]? = some 32 := by
        show ((wrF s.1 r s.2.1).data.toList ++ (spF s.1 u.1).data.toList ++ txS r (u :: K))[1]? = some 32
        rw [List.append_assoc, List.getElem?_append_right (by omega), hl]
        unfold spF
        split <;> rfl
      rw [e] at hd
      cases hd
/-- The symbols of what is written. -/
theorem back_syL {q : Int} : ∀ (K : List Sy) (s : Sy), (∀ u ∈ s :: K, RB q u.1 u.2.1) → ∀ (t : ByteArray), t.data.toList = txS q (s :: K) → ∀ acc, (syL q t 0 acc).2.1 = 0 ∧ er (syL q t 0 acc).2.2 = er acc ++ er (s :: K)
  | [], s, hK, t, ht, acc => by
    obtain ⟨h1, h2, h3⟩ := hK s List.mem_cons_self
    have hw : t = wrF s.1 q s.2.1 := ByteArray.ext (Array.toList_inj.1 ht)
    rw [← hw] at h1 h2
    have hst := stR_l q t 0 acc
    rw [h1] at hst
    rw [sy_go h2 (by rw [hst]) (n := t.size) (by rw [hst]), sy_end (sk_ge _ _), hst]
    exact ⟨rfl, by simp only [er_app]; rfl⟩
  | u :: K, s, hK, t, ht, acc => by
    have hs := hK s List.mem_cons_self
    have hu := hK u (List.mem_cons_of_mem _ List.mem_cons_self)
    obtain ⟨h1, h2, h3⟩ := hs
    obtain ⟨w, hw⟩ : ∃ w, wrF s.1 q s.2.1 = w := ⟨_, rfl⟩
    have hs' : RB q s.1 s.2.1 := ⟨h1, h2, h3⟩
    obtain ⟨t', ht'⟩ : ∃ t' : ByteArray, t'.data.toList = txS q (u :: K) := ⟨⟨(txS q (u :: K)).toArray⟩, rfl⟩
    have hlist : t.data.toList = w.data.toList ++ ((spF s.1 u.1).data.toList ++ t'.data.toList) := by
      rw [ht, ht', ← hw, ← List.append_assoc]; rfl
    have hz : t.size = w.size + ((spF s.1 u.1).size + t'.size) := by
      have := congrArg List.length hlist
      simp only [List.length_append, ba_len] at this
      exact this
    have hp' := txS_pk ht' hu.2.1
    have hnb' : bBl (pk t' 0) = false := by rw [hp']; exact hu.2.2
    rw [hw] at h1 h2 h3
    have hpw : ∀ j, j < (spF s.1 u.1).size → pk t (w.size + j) = pk (spF s.1 u.1) j := by
      intro j hj
      rw [pk_get, pk_get, hlist, List.getElem?_append_right (by rw [ba_len]; omega), ba_len, show w.size + j - w.size = j by omega, List.getElem?_append_left (by rw [ba_len]; exact hj)]
    have hsz := spF_size s.1 u.1
    have hp32 : pk t w.size = 32 := by
      have := hpw 0 hsz.2
      rw [Nat.add_zero] at this
      rw [this]; unfold spF; split <;> rfl
    have hsf : Sf t' t 0 (w.size + (spF s.1 u.1).size) := by
      refine ⟨Nat.zero_le _, by omega, ?_⟩
      rw [hlist, Nat.zero_add, ← List.append_assoc, List.drop_left' (by rw [List.length_append, ba_len, ba_len]), List.drop_zero]
    have hpf : Pf w t w.size := by
      refine ⟨Nat.le_refl _, by omega, ?_, Or.inr (Or.inr (Or.inr (Or.inl hp32))), by rw [pk_out (Nat.le_refl _)]; rfl⟩
      rw [hlist, List.take_append_of_le_length (by rw [ba_len]; exact Nat.le_refl _)]
    have hsk' : sk t (0 + (w.size + (spF s.1 u.1).size)) = 0 + (w.size + (spF s.1 u.1).size) := ru_no (by rw [sf_pk hsf (Nat.le_refl 0)]; exact hnb')
    rw [Nat.zero_add] at hsk'
    have e32 : sk t w.size = sk t (w.size + 1) := ru_yes (by rw [hp32]; rfl)
    have hst0 : stR q t 0 [] = stR q w 0 [] := by
      refine pf_stR hpf 0 [] h2 (by rw [h1]) ?_ (by rw [h1]; exact Int.le_refl _)
      intro hopen
      have hos : opn s.1 = true := by
        cases ho : opn s.1 with
        | true => rfl
        | false =>
          exfalso
          have hf := rb_first hs' ho
          rw [hw] at hf
          rcases hopen with k | k | k
          · have hd := di_ch (r := q) k
            rw [hf.1] at hd; cases hd.1
          · exact hf.2 k
          · rw [hf.1] at k; cases k
      left
      by_cases hou : opn u.1 = true
      · have hsp : spF s.1 u.1 = ⟨#[32, 35, 35, 32]⟩ := by unfold spF; rw [if_pos ⟨hos, hou⟩]
        have hp35 : pk t (w.size + 1) = 35 := by rw [hpw 1 (by rw [hsp]; decide), hsp]; rfl
        have hsk : sk t w.size = w.size + 1 := by rw [e32]; exact ru_no (by rw [hp35]; rfl)
        rw [hsk]
        refine ⟨by unfold ch; rw [hp35]; unfold chB; rfl, by rw [hp35]; rintro ⟨k, _⟩; exact absurd k (by decide), by rw [hp35]; rintro (k | k) <;> exact absurd k (by decide)⟩
      · have hou' : opn u.1 = false := by cases ho : opn u.1 with | true => exact absurd ho hou | false => rfl
        have hsp : spF s.1 u.1 = ⟨#[32]⟩ := by unfold spF; rw [if_neg (fun k => hou k.2)]
        have h1s : (spF s.1 u.1).size = 1 := by rw [hsp]; rfl
        have hsk : sk t w.size = w.size + 1 := by rw [e32]; rw [h1s] at hsk'; exact hsk'
        obtain ⟨f1, f2⟩ := rb_first hu hou'
        have p0 : pk t (w.size + 1) = pk t' 0 := by
          have := sf_pk hsf (Nat.le_refl 0)
          rw [Nat.zero_add, h1s] at this; exact this
        have p1 : pk t (w.size + 1 + 1) = pk t' (0 + 1) := by
          have := sf_pk hsf (i := 1) (Nat.zero_le 1)
          rw [h1s] at this
          rw [show w.size + 1 + 1 = 1 + (w.size + 1) by omega]; exact this
        rw [hsk]
        refine ⟨?_, ?_, fun _ => by rw [h1]⟩
        · show chB q (pk t (w.size + 1)) = 0
          rw [p0, hp']; exact f1
        · rintro ⟨k1, k2⟩
          rw [p0, hp'] at k1
          rw [p1] at k2
          exact f2 ⟨k1, txS_pk1 ht' k1 k2⟩
    have hst := stR_l q t 0 acc
    rw [hst0, h1] at hst
    have hgo : syL q t 0 acc = syL q t (w.size + (spF s.1 u.1).size) (acc ++ [(s.1, s.2.1, 0)]) := by
      rw [sy_go (t := t) (a := 0) (by omega) (by rw [hst]) (n := w.size) (by rw [hst]), hst]
      simp only
      by_cases hsp : opn s.1 = true ∧ opn u.1 = true
      · have hse : spF s.1 u.1 = ⟨#[32, 35, 35, 32]⟩ := by unfold spF; rw [if_pos hsp]
        have h4 : (spF s.1 u.1).size = 4 := by rw [hse]; rfl
        have q1 : pk t (w.size + 1) = 35 := by rw [hpw 1 (by omega), hse]; rfl
        have q2 : pk t (w.size + 1 + 1) = 35 := by rw [show w.size + 1 + 1 = w.size + 2 by omega, hpw 2 (by omega), hse]; rfl
        have q3 : pk t (w.size + 3) = 32 := by rw [hpw 3 (by omega), hse]; rfl
        have hsk : sk t w.size = w.size + 1 := by rw [e32]; exact ru_no (by rw [q1]; rfl)
        have hcm : cmE t ((w.size + 1 : Nat) : Int) (w.size + 1 + 1) = (((w.size + 3 : Nat) : Int), 0, 0) := by
          rw [cm_end (by omega) (by rw [q2]; rfl) q2]
          refine Prod.ext ?_ rfl
          show ((w.size + 1 + 1 : Nat) : Int) + 1 = ((w.size + 3 : Nat) : Int)
          omega
        have hs2 : stR q t (w.size + 1) (acc ++ [(s.1, s.2.1, 0)]) = ⟨q, ((w.size + 3 : Nat) : Int), acc ++ [(s.1, s.2.1, 0)], 0, 0⟩ := by
          unfold stR
          rw [if_pos q1, hcm]
        have hsk3 : sk t (w.size + 3) = w.size + 4 := by
          have e : sk t (w.size + 3) = sk t (w.size + 3 + 1) := ru_yes (by rw [q3]; rfl)
          rw [e]; rw [h4] at hsk'; exact hsk'
        rw [hsk, sy_go (t := t) (a := w.size + 1) (by omega) (by rw [hs2]) (n := w.size + 3) (by rw [hs2]), hs2, hsk3, h4]
      · have hse : spF s.1 u.1 = ⟨#[32]⟩ := by unfold spF; rw [if_neg hsp]
        have h1s : (spF s.1 u.1).size = 1 := by rw [hse]; rfl
        rw [e32, h1s]
        rw [h1s] at hsk'
        rw [hsk']
    have ih := back_syL K u (fun v hv => hK v (List.mem_cons_of_mem _ hv)) t' ht' (acc ++ [(s.1, s.2.1, 0)])
    have hsh := sf_syL hsf t'.size 0 q (acc ++ [(s.1, s.2.1, 0)]) (acc ++ [(s.1, s.2.1, 0)]) (by omega) rfl (Nat.le_refl 0)
    rw [Nat.zero_add, ← hgo] at hsh
    refine ⟨hsh.1.trans ih.1, ?_⟩
    rw [hsh.2.1 ih.1, ih.2, er_app, List.append_assoc]
    rfl
/-- How long the texts of symbols are together. -/
def tot (l : List Sy) : Nat := (l.map fun s => s.2.1.size).sum
theorem tot_app (l m : List Sy) : tot (l ++ m) = tot l + tot m := by unfold tot; rw [List.map_append, List.sum_append]
theorem tot_mem {l : List Sy} {s : Sy} (h : s ∈ l) : s.2.1.size ≤ tot l := by
  obtain ⟨a, b, rfl⟩ := List.append_of_mem h
  rw [tot_app]
  have : tot (s :: b) = s.2.1.size + tot b := rfl
  omega
theorem tot_take (l : List Sy) (i : Nat) : tot (l.take i) ≤ tot l := by
  have := tot_app (l.take i) (l.drop i)
  rw [List.take_append_drop] at this
  omega
theorem quA_len2 (t : ByteArray) (a : Int) (i : Nat) (h : (quE t a i).2.1 = 0) : (quA t a i).length + i ≤ (quE t a i).2.2 := by
  by_cases hl : (litF t i a).2 = 0
  · have hlt := lit_lt hl
    by_cases h34 : pk t i = 34
    · by_cases h35 : pk t (i + 1) = 34
      · have ha : quA t a i = 34 :: quA t a (i + 1 + 1) := by rw [quA, dif_pos hl, if_pos h34, if_pos h35]
        rw [qu_two hl h34 h35] at h ⊢
        have := quA_len2 t a (i + 1 + 1) h
        rw [ha, List.length_cons]; omega
      · have ha : quA t a i = [] := by rw [quA, dif_pos hl, if_pos h34, if_neg h35]
        rw [ha, qu_end hl h34 h35]; simp
    · have ha : quA t a i = cu (pk t i) :: quA t a (i + 1) := by rw [quA, dif_pos hl, if_neg h34]
      rw [qu_one hl h34] at h ⊢
      have := quA_len2 t a (i + 1) h
      rw [ha, List.length_cons]; omega
  · rw [qu_bad hl] at h; exact absurd h hl
termination_by t.size - i
theorem st_size2 {r : Int} {t : ByteArray} {a : Nat} {l : List Sy} {s : Sy} (ha : a < t.size) (hc : (stR r t a l).c = 0) (hl : (stR r t a l).l = l ++ [s]) : (s.2.1.size : Int) + a ≤ (stR r t a l).a := by
  obtain ⟨f1, f2, f3⟩ := st_fit ha hc hl
  by_cases h6 : s.1 = 6
  · have k2 := st_six ha hc hl h6
    have hst : stR r t a l = quR r t a l := by unfold stR; rw [if_neg (by rw [k2]; decide), if_pos k2]
    rw [hst] at hc hl ⊢
    unfold quR at hc hl ⊢
    split at hc
    · rename_i h; rw [if_pos h] at hl ⊢
      have e : s = (6, quT t (a + 1) (quE t (a : Int) (a + 1)).2.2, (a : Int)) := ((List.cons.inj (List.append_cancel_left hl)).1).symm
      rw [e]
      have h5 : quT t (a + 1) (quE t (a : Int) (a + 1)).2.2 = ⟨(quA t (a : Int) (a + 1)).toArray⟩ := by
        unfold quT
        rw [qu_ra t (a : Int) (a + 1) h]
      have h6 := quA_len2 t (a : Int) (a + 1) h
      show ((quT t (a + 1) (quE t (a : Int) (a + 1)).2.2).size : Int) + a ≤ ((quE t (a : Int) (a + 1)).2.2 : Int) + 1
      rw [h5, size_of]
      omega
    · rename_i h; exact absurd hc h
  · by_cases h7 : s.1 = 7
    · have := f3 h7; omega
    · exact f2 h6 h7
theorem sy_tot (t : ByteArray) : ∀ (n a : Nat) (r : Int) (l : List Sy), t.size - a ≤ n → a ≤ t.size → (syL r t a l).2.1 = 0 → tot (syL r t a l).2.2 + a ≤ tot l + t.size := by
  intro n
  induction n with
  | zero =>
    intro a r l h ha _
    rw [sy_end (by omega)]
    simp only; omega
  | succ n ih =>
    intro a r l h ha h0
    rcases Nat.lt_or_ge a t.size with hlt | hge
    · by_cases hc : (stR r t a l).c = 0
      · obtain ⟨m, h1, h2, h3, h4⟩ := st_up hlt hc
        have hk := sk_ge t m
        rw [sy_go hlt hc h1] at h0 ⊢
        have hi := ih (sk t m) (stR r t a l).r (stR r t a l).l (by omega) (sk_le h3) h0
        rcases st_add hlt hc with e | ⟨s, _, e⟩
        · rw [e] at hi ⊢; omega
        · have hs := st_size2 hlt hc e
          rw [h1] at hs
          rw [e] at hi ⊢
          have e2 : tot (l ++ [s]) = tot l + s.2.1.size := by rw [tot_app]; rfl
          rw [e2] at hi
          omega
      · rw [sy_bad hlt hc] at h0; exact absurd h0 hc
    · rw [sy_end hge]
      simp only; omega
theorem syF_tot {r : Int} {t : ByteArray} (h : (syF r t).2.1 = 0) : tot (syF r t).2.2 ≤ t.size ∧ (syF r t).2.2.length ≤ t.size + 1 := by
  obtain ⟨_, _, h3, h4⟩ := syF_ok h
  rw [h4]
  have h5 := sy_tot t t.size (sk t 0) r [] (by omega) (sk_le (Nat.zero_le _)) h3
  have h6 := sy_len t t.size (sk t 0) r [] (by omega)
  have h7 : tot ([] : List Sy) = 0 := rfl
  have h8 : tot ([(0, ⟨#[]⟩, (t.size : Int))] : List Sy) = 0 := rfl
  refine ⟨?_, ?_⟩
  · show tot (_ ++ _) ≤ _
    rw [tot_app, h8]; omega
  · show (_ ++ _ : List Sy).length ≤ _
    rw [List.length_append, List.length_singleton]
    simp only [List.length_nil] at h6
    omega
theorem txB_tot (r : Int) (l : List Sy) : ∀ i, (txB r l i).length ≤ 2 * tot (l.take i) + 6 * i
  | 0 => Nat.zero_le _
  | i + 1 => by
    have ih := txB_tot r l i
    have h1 := wrF_size (sA l i).1 r (sA l i).2.1
    have h2 := (spF_size (sA l (i - 1)).1 (sA l i).1).1
    have h3 : tot (l.take i) + (sA l i).2.1.size ≤ tot (l.take (i + 1)) := by
      unfold sA
      rw [List.getD_eq_getElem?_getD, List.take_add_one]
      cases h : l[i]? with
      | none => rw [tot_app]; exact Nat.le_add_right _ _
      | some s => rw [tot_app]; exact Nat.le_refl _
    have e1 : (wrF (sA l i).1 r (sA l i).2.1).data.toList.length = (wrF (sA l i).1 r (sA l i).2.1).size := Array.length_toList
    have e2 : (spF (sA l (i - 1)).1 (sA l i).1).data.toList.length = (spF (sA l (i - 1)).1 (sA l i).1).size := Array.length_toList
    rw [txB]
    split
    · simp only [List.length_append, List.length_nil]; omega
    · simp only [List.length_append]; omega
/-- Text goes on to the first end. -/
theorem tx_run {r : Int} {l : List Sy} {n : Nat} (hn : n < l.length) (h0 : ∀ i, i ≤ n → chF (sA l i).1 (sA l i).2.1 = 0) (h1 : ∀ i, i < n → (sA l i).1 ≠ 0) (h2 : (sA l n).1 = 0) : ∀ d i, i + d = n → txR r l i = (⟨(txB r l n).toArray⟩, 0)
  | 0, i, h => by
    have : i = n := by omega
    subst this
    exact tx_end hn (h0 i (Nat.le_refl _)) h2
  | d + 1, i, h => by
    rw [tx_go (by omega) (h0 i (by omega)) (h1 i (by omega))]
    exact tx_run hn h0 h1 h2 d (i + 1) (by omega)
theorem er_sA {l m : List Sy} (h : er l = er m) (i : Nat) : (sA l i).1 = (sA m i).1 ∧ (sA l i).2.1 = (sA m i).2.1 := by
  have he := congrArg (fun z => z[i]?) h
  simp only [er, List.getElem?_map] at he
  unfold sA
  rw [List.getD_eq_getElem?_getD, List.getD_eq_getElem?_getD]
  cases hl : l[i]? with
  | none =>
    cases hm : m[i]? with
    | none => exact ⟨rfl, rfl⟩
    | some u => rw [hl, hm] at he; cases he
  | some s =>
    cases hm : m[i]? with
    | none => rw [hl, hm] at he; cases he
    | some u =>
      rw [hl, hm] at he
      simp only [Option.map_some, Option.some.injEq, Prod.mk.injEq] at he
      exact he
theorem er_txB {l m : List Sy} (h : er l = er m) (r : Int) : ∀ i, txB r l i = txB r m i
  | 0 => rfl
  | i + 1 => by
    rw [txB, txB, er_txB h r i, (er_sA h i).1, (er_sA h i).2, (er_sA h (i - 1)).1]
theorem er_tot {l m : List Sy} (h : er l = er m) : tot l = tot m := by
  have : ∀ l : List Sy, tot l = ((er l).map (·.2.size)).sum := by intro l; unfold tot er; rw [List.map_map]; rfl
  rw [this, this, h]
theorem er_leng {l m : List Sy} (h : er l = er m) : l.length = m.length := by
  have := congrArg List.length h
  simpa [er] using this
/-- What Text answers for symbols that are those of a text but for At. -/
theorem tx_all2 {q : Int} {l : List Sy} {n : Nat} (hn : l.length = n + 1) (h0 : ∀ s ∈ l, chF s.1 s.2.1 = 0) (h1 : ∀ i s, l[i]? = some s → (s.1 = 0 ↔ i = n)) {m : List Sy} (he : er m = er l) : txR q m 0 = (⟨(txB q l n).toArray⟩, 0) := by
  have hlm : m.length = n + 1 := by rw [← hn]; exact er_leng he
  have hat : ∀ i, i ≤ n → ∃ s, l[i]? = some s ∧ sA l i = s := fun i hi => ⟨l[i]'(by omega), List.getElem?_eq_getElem (by omega), sA_eq (List.getElem?_eq_getElem (by omega))⟩
  rw [← er_txB he]
  refine tx_run (n := n) (by omega) ?_ ?_ ?_ n 0 (by omega)
  · intro i hi
    obtain ⟨s, hs, e⟩ := hat i hi
    rw [(er_sA he i).1, (er_sA he i).2, e]
    exact h0 s (List.mem_of_getElem? hs)
  · intro i hi
    obtain ⟨s, hs, e⟩ := hat i (by omega)
    rw [(er_sA he i).1, e]
    intro k
    have := (h1 i s hs).1 k
    omega
  · obtain ⟨s, hs, e⟩ := hat n (Nat.le_refl _)
    rw [(er_sA he n).1, e]
    exact (h1 n s hs).2 rfl
/-- What is written of the symbols of a text, and read again. -/
theorem back_all {r q : Int} {t : ByteArray} (h : (syF r t).2.1 = 0) (hz : t.size ≤ 400) (hq : 0 ≤ q ∧ q ≤ 2) :
    ∃ S : ByteArray, txR q (syF r t).2.2 0 = (S, 0) ∧ (syF q S).2.1 = 0 ∧ er (syF q S).2.2 = er (syF r t).2.2 ∧ txR q (syF q S).2.2 0 = (S, 0) ∧ S.size ≤ 60000 ∧
      (syF q S).1 = 0 ∧ (∀ i, i ≤ (syF r t).2.2.length → (txB q (syF r t).2.2 i).length ≤ 60000) ∧ (∀ i, i ≤ (syF q S).2.2.length → (txB q (syF q S).2.2 i).length ≤ 60000) ∧
      (∀ s ∈ (syF r t).2.2, s.2.1.size ≤ 400) ∧ (∀ s ∈ (syF q S).2.2, s.2.1.size ≤ 400) ∧ (syF r t).2.2.length ≤ 1000 ∧ (syF q S).2.2.length ≤ 1000 := by
  have hch := ch_all h (by omega)
  have hki := asc_kind h
  have hrb := rb_all h
  obtain ⟨hto, hle⟩ := syF_tot h
  obtain ⟨hla, hpos⟩ := asc_last h
  obtain ⟨n, hn⟩ : ∃ n, (syF r t).2.2.length = n + 1 := ⟨(syF r t).2.2.length - 1, by omega⟩
  rw [hn, Nat.add_sub_cancel] at hla
  have hki' : ∀ i s, (syF r t).2.2[i]? = some s → (s.1 = 0 ↔ i = n) := by
    intro i s hs
    have := hki i s hs
    rw [hn, Nat.add_sub_cancel] at this
    exact this
  obtain ⟨S, hS⟩ : ∃ S : ByteArray, (⟨(txB q (syF r t).2.2 n).toArray⟩ : ByteArray) = S := ⟨_, rfl⟩
  have hb : ∀ i, i ≤ n + 1 → (txB q (syF r t).2.2 i).length ≤ 60000 := by
    intro i hi
    have h1 := txB_tot q (syF r t).2.2 i
    have h2 := tot_take (syF r t).2.2 i
    omega
  have hSz : S.size ≤ 60000 := by rw [← hS, size_of]; exact hb n (by omega)
  have htx : txR q (syF r t).2.2 0 = (S, 0) := by rw [← hS]; exact tx_all2 hn hch hki' rfl
  have hsplit : (syF r t).2.2 = (syF r t).2.2.take n ++ [(0, ⟨#[]⟩, (t.size : Int))] := by
    have e := List.take_add_one (l := (syF r t).2.2) (i := n)
    rw [hla, List.take_of_length_le (by omega)] at e
    exact e
  have hsy : (syL q S (sk S 0) []).2.1 = 0 ∧ er (syL q S (sk S 0) []).2.2 = er ((syF r t).2.2.take n) := by
    rcases n with _ | j
    · have hS0 : S = ⟨#[]⟩ := by rw [← hS]; rfl
      rw [sy_end (by rw [hS0]; exact Nat.zero_le _)]
      exact ⟨rfl, rfl⟩
    · have hSl : S.data.toList = txS q ((syF r t).2.2.take (j + 1)) := by rw [← hS, ← txB_S q _ j (by omega)]
      obtain ⟨s, K, hK⟩ : ∃ s K, (syF r t).2.2.take (j + 1) = s :: K := by
        cases hK : (syF r t).2.2.take (j + 1) with
        | nil => have := congrArg List.length hK; rw [List.length_take, hn, List.length_nil] at this; omega
        | cons s K => exact ⟨s, K, rfl⟩
      have hall : ∀ u ∈ s :: K, RB q u.1 u.2.1 := by
        intro u hu
        rw [← hK] at hu
        obtain ⟨i, hi⟩ := List.getElem?_of_mem hu
        rw [List.getElem?_take] at hi
        by_cases hij : i < j + 1
        · rw [if_pos hij] at hi
          rcases hrb u (List.mem_of_getElem? hi) with e | ⟨_, _, e⟩
          · exfalso
            have := (hki' i u hi).1 (by rw [e])
            omega
          · exact e q hq
        · rw [if_neg hij] at hi; cases hi
      rw [hK] at hSl ⊢
      have hsk : sk S 0 = 0 := by
        obtain ⟨_, g2, g3⟩ := hall s List.mem_cons_self
        exact ru_no (by rw [txS_pk hSl g2]; exact g3)
      rw [hsk]
      have := back_syL K s hall S hSl []
      exact ⟨this.1, this.2⟩
  have hF := syF_mk hq (by omega) hsy.1
  have her : er (syF q S).2.2 = er (syF r t).2.2 := by
    rw [hF, hsplit]
    exact er_end _ _ _ _ hsy.2
  have hb2 : ∀ i, i ≤ (syF q S).2.2.length → (txB q (syF q S).2.2 i).length ≤ 60000 := by
    intro i hi
    rw [er_txB her]
    exact hb i (by rw [er_leng her, hn] at hi; exact hi)
  refine ⟨S, htx, by rw [hF], her, by rw [← hS] at her ⊢; exact tx_all2 hn hch hki' her, hSz, by rw [hF], fun i hi => hb i (by omega), hb2, ?_, ?_, by omega, by rw [er_leng her]; omega⟩
  · intro s hs
    have := tot_mem hs
    omega
  · intro s hs
    have h1 := tot_mem hs
    rw [er_tot her] at h1
    omega
end Go.Proofs.YtbnldpcbdeeflaaGreatDoor
