/- Comments and blanks put before a symbol, beginnings of texts, texts behind a pragmat. No conditions. -/
import Derived.Test.YtbnldpcbdeeflaaGreatDoorHp
namespace Go.Proofs.YtbnldpcbdeeflaaGreatDoor
open Go.ChangeShapes Go.WideShapes Go.ChangeAt Go.RowKit


theorem sk_nb (t : ByteArray) (i : Nat) : bBl (pk t (sk t i)) = false := by
  rcases Bool.eq_false_or_eq_true (bBl (pk t i)) with k | k
  · have hlt := lt_of_yes bBl0 k
    have e : sk t i = sk t (i + 1) := ru_yes k
    rw [e]; exact sk_nb t (i + 1)
  · have e : sk t i = i := ru_no k
    rw [e]; exact k
termination_by t.size - i
/-- The places at which steps begin. -/
inductive Vis (t : ByteArray) : Int → Nat → List Sy → Int → Nat → List Sy → Prop
  | here (r : Int) (a : Nat) (l : List Sy) : Vis t r a l r a l
  | go {r : Int} {a : Nat} {l : List Sy} {n : Nat} {r' : Int} {b : Nat} {l' : List Sy} (ha : a < t.size) (hc : (stR r t a l).c = 0) (hn : (stR r t a l).a = (n : Int)) (h : Vis t (stR r t a l).r (sk t n) (stR r t a l).l r' b l') : Vis t r a l r' b l'
theorem vis_le {t : ByteArray} {r r' : Int} {a b : Nat} {l l' : List Sy} (h : Vis t r a l r' b l') : a ≤ b := by
  induction h with
  | here => exact Nat.le_refl _
  | @go r a l n r' b l' ha hc hn h ih =>
    obtain ⟨m, h1, h2, _⟩ := st_up ha hc
    have := sk_ge t n
    omega
theorem vis_sy {t : ByteArray} {r r' : Int} {a b : Nat} {l l' : List Sy} (h : Vis t r a l r' b l') : syL r t a l = syL r' t b l' := by
  induction h with
  | here => rfl
  | go ha hc hn h ih => rw [sy_go ha hc hn]; exact ih
theorem vis_nb {t : ByteArray} {r r' : Int} {a b : Nat} {l l' : List Sy} (h : Vis t r a l r' b l') : bBl (pk t a) = false → bBl (pk t b) = false := by
  induction h with
  | here => exact fun h => h
  | go ha hc hn h ih => exact fun _ => ih (sk_nb t _)
/-- The place at which a symbol begins. -/
theorem vis_at (t : ByteArray) : ∀ (n a : Nat) (r : Int) (l : List Sy), t.size - a ≤ n → (syL r t a l).2.1 = 0 → ∀ i, l.length ≤ i → i < (syL r t a l).2.2.length →
    ∃ (r' : Int) (b : Nat) (l' : List Sy) (s : Sy), b < t.size ∧ Vis t r a l r' b l' ∧ l' = (syL r t a l).2.2.take i ∧ (syL r t a l).2.2[i]? = some s ∧ s.2.2 = (b : Int) ∧ (stR r' t b l').c = 0 ∧ (stR r' t b l').l = l' ++ [s] := by
  intro n
  induction n with
  | zero =>
    intro a r l hn h0 i h1 h2
    rw [sy_end (t := t) (by omega)] at h2
    simp only at h2; omega
  | succ n ih =>
    intro a r l hn h0 i h1 h2
    rcases Nat.lt_or_ge a t.size with ha | ha
    · by_cases hc : (stR r t a l).c = 0
      · obtain ⟨m, m1, m2, m3, m4⟩ := st_up ha hc
        have hk := sk_ge t m
        have hg := sy_go ha hc m1
        rw [hg] at h0 h2
        by_cases hi : (stR r t a l).l.length ≤ i
        · obtain ⟨r', b, l', s, g1, g2, g3, g4, g5⟩ := ih (sk t m) (stR r t a l).r (stR r t a l).l (by omega) h0 i hi h2
          exact ⟨r', b, l', s, g1, Vis.go ha hc m1 g2, by rw [hg]; exact g3, by rw [hg]; exact g4, g5⟩
        · rcases st_add ha hc with e | ⟨s, hs, e⟩
          · rw [e] at hi; omega
          · have hil : i = l.length := by rw [e, List.length_append, List.length_singleton] at hi; omega
            obtain ⟨x, hx⟩ := sy_pre t t.size (sk t m) (stR r t a l).r (stR r t a l).l (by omega) h0
            have hs2 : s.2.2 = (a : Int) := (st_fit ha hc e).1
            refine ⟨r, a, l, s, ha, Vis.here r a l, ?_, ?_, hs2, hc, e⟩
            · rw [hg, hx, e, hil, List.append_assoc, List.take_left']; rfl
            · rw [hg, hx, e, hil, List.append_assoc, List.getElem?_append_right (Nat.le_refl _)]; simp
      · rw [sy_bad ha hc] at h0; exact absurd h0 hc
    · rw [sy_end (t := t) ha] at h2
      simp only at h2; omega
/-- The end is reached. -/
theorem vis_end (t : ByteArray) : ∀ (n a : Nat) (r : Int) (l : List Sy), t.size - a ≤ n → a ≤ t.size → (syL r t a l).2.1 = 0 → ∃ r', Vis t r a l r' t.size (syL r t a l).2.2 := by
  intro n
  induction n with
  | zero =>
    intro a r l hn ha h0
    have : a = t.size := by omega
    subst this
    rw [sy_end (t := t) (Nat.le_refl _)]
    exact ⟨r, Vis.here _ _ _⟩
  | succ n ih =>
    intro a r l hn ha h0
    rcases Nat.lt_or_ge a t.size with ha | ha2
    · by_cases hc : (stR r t a l).c = 0
      · obtain ⟨m, m1, m2, m3, m4⟩ := st_up ha hc
        have hk := sk_ge t m
        have hg := sy_go ha hc m1
        rw [hg] at h0
        obtain ⟨r', hv⟩ := ih (sk t m) (stR r t a l).r (stR r t a l).l (by omega) (sk_le m3) h0
        exact ⟨r', by rw [hg]; exact Vis.go ha hc m1 hv⟩
      · rw [sy_bad ha hc] at h0; exact absurd h0 hc
    · have : a = t.size := by omega
      subst this
      rw [sy_end (t := t) (Nat.le_refl _)]
      exact ⟨r, Vis.here _ _ _⟩
/-- The same places in a text that is alike up to b. -/
theorem vis_pf {t t' : ByteArray} {b : Nat} (h : Pf t t' b) {r r' : Int} {a : Nat} {l l' : List Sy} (hL : ∀ r s, Lk r t t' b s) (hv : Vis t r a l r' b l') : ∀ i, i ≤ b → a = sk t i → syL r t' (sk t' i) l = syL r' t' (sk t' b) l' := by
  induction hv with
  | here r a l =>
    intro i hi he
    rcases pf_sk h i hi with ⟨h1, _⟩ | ⟨_, h2⟩
    · omega
    · rw [h2]
  | @go r a l n r' b l' ha hc hn hv ih =>
    intro i hi he
    have hle := vis_le hv
    have hk := sk_ge t n
    obtain ⟨m, m1, m2, m3, m4⟩ := st_up ha hc
    have hmn : m = n := by omega
    subst hmn
    have hst := pf_stR h a l (by omega) hc (fun _ => hL r _) (by omega)
    rcases pf_sk h i hi with ⟨h1, h2⟩ | ⟨h1, h2⟩
    · have h3 := h.h2
      rw [h2, ← he, sy_go (t := t') (n := m) (by omega) (by rw [hst]; exact hc) (by rw [hst]; exact hn), hst]
      exact ih h hL m (by omega) rfl
    · omega


theorem data_app (a b : ByteArray) : (a ++ b).data.toList = a.data.toList ++ b.data.toList := by
  rw [ByteArray.data_append, Array.toList_append]
theorem syF_ok {r : Int} {t : ByteArray} (h : (syF r t).2.1 = 0) : (0 ≤ r ∧ r ≤ 2) ∧ t.size ≤ 65536 ∧ (syL r t (sk t 0) []).2.1 = 0 ∧ syF r t = (0, 0, (syL r t (sk t 0) []).2.2 ++ [(0, ⟨#[]⟩, (t.size : Int))]) := by
  unfold syF at h ⊢
  by_cases h1 : 0 ≤ r ∧ r ≤ 2
  · rw [if_pos h1] at h ⊢
    by_cases h2 : t.size ≤ 65536
    · rw [if_pos h2] at h ⊢
      by_cases h3 : (syL r t (sk t 0) []).2.1 = 0
      · rw [if_pos h3]; exact ⟨h1, h2, h3, rfl⟩
      · rw [if_neg h3] at h; exact absurd h h3
    · rw [if_neg h2] at h; exact absurd h (by decide)
  · rw [if_neg h1] at h; exact absurd h (by decide)
theorem syF_mk {r : Int} {t : ByteArray} (h1 : 0 ≤ r ∧ r ≤ 2) (h2 : t.size ≤ 65536) (h3 : (syL r t (sk t 0) []).2.1 = 0) : syF r t = (0, 0, (syL r t (sk t 0) []).2.2 ++ [(0, ⟨#[]⟩, (t.size : Int))]) := by
  unfold syF; rw [if_pos h1, if_pos h2, if_pos h3]
theorem syF_bad {r : Int} {t : ByteArray} (h1 : 0 ≤ r ∧ r ≤ 2) (h2 : t.size ≤ 65536) (h3 : (syL r t (sk t 0) []).2.1 ≠ 0) : syF r t = ((syL r t (sk t 0) []).1, (syL r t (sk t 0) []).2.1, []) := by
  unfold syF; rw [if_pos h1, if_pos h2, if_neg h3]
/-- Where the ith symbol begins. -/
theorem sy_place {r : Int} {t : ByteArray} (h : (syF r t).2.1 = 0) (i : Nat) (hi : i < (syF r t).2.2.length) :
    ∃ (r' : Int) (b : Nat), b ≤ t.size ∧ (((syF r t).2.2)[i]?).map (·.2.2) = some (b : Int) ∧ bBl (pk t b) = false ∧ Vis t r (sk t 0) [] r' b ((syF r t).2.2.take i) := by
  obtain ⟨h1, h2, h3, h4⟩ := syF_ok h
  rw [h4] at hi ⊢
  simp only [List.length_append, List.length_singleton] at hi
  rcases Nat.lt_or_ge i (syL r t (sk t 0) []).2.2.length with hl | hl
  · obtain ⟨r', b, l', s, g1, g2, g3, g4, g5, _, _⟩ := vis_at t t.size (sk t 0) r [] (by omega) h3 i (Nat.zero_le _) hl
    refine ⟨r', b, Nat.le_of_lt g1, ?_, vis_nb g2 (sk_nb t 0), ?_⟩
    · simp only
      rw [List.getElem?_append_left hl, g4, Option.map_some, g5]
    · simp only
      rw [List.take_append_of_le_length (Nat.le_of_lt hl), ← g3]; exact g2
  · have hil : i = (syL r t (sk t 0) []).2.2.length := by omega
    obtain ⟨r', hv⟩ := vis_end t t.size (sk t 0) r [] (by omega) (sk_le (Nat.zero_le _)) h3
    refine ⟨r', t.size, Nat.le_refl _, ?_, by rw [pk_out (Nat.le_refl _)]; rfl, ?_⟩
    · simp only
      rw [hil, List.getElem?_append_right (Nat.le_refl _)]; simp
    · simp only
      rw [hil, List.take_left']
      · exact hv
      · rfl
theorem er_end (l l' : List Sy) (a b : Int) (h : er l' = er l) : er (l' ++ [(0, ⟨#[]⟩, a)]) = er (l ++ [(0, ⟨#[]⟩, b)]) := by
  rw [er_app, er_app, h]; rfl
/-- A text with something put in at a place. -/
def ins (t rem : ByteArray) (b : Nat) : ByteArray := t.extract 0 b ++ rem ++ t.extract b t.size
theorem ba_len (t : ByteArray) : t.data.toList.length = t.size := by simp
theorem ins_list (t rem : ByteArray) (b : Nat) : (ins t rem b).data.toList = t.data.toList.take b ++ rem.data.toList ++ t.data.toList.drop b := by
  unfold ins
  rw [data_app, data_app, Lib.extract_data, Lib.extract_data, List.drop_zero, Nat.sub_zero]
  congr 1
  exact List.take_of_length_le (by rw [List.length_drop, ba_len]; exact Nat.le_refl _)
theorem ins_size (t rem : ByteArray) {b : Nat} (hb : b ≤ t.size) : (ins t rem b).size = t.size + rem.size := by
  have := congrArg List.length (ins_list t rem b)
  simp only [List.length_append, List.length_take, List.length_drop, ba_len] at this
  omega
theorem ins_take (t rem : ByteArray) {b : Nat} (hb : b ≤ t.size) : (ins t rem b).data.toList.take b = t.data.toList.take b := by
  have hl : (t.data.toList.take b).length = b := by rw [List.length_take, ba_len]; omega
  rw [ins_list, List.append_assoc, List.take_append_of_le_length (by omega), List.take_of_length_le (by omega)]
theorem ins_sf (t rem : ByteArray) {b : Nat} (hb : b ≤ t.size) : Sf t (ins t rem b) b rem.size := by
  refine ⟨hb, ins_size t rem hb, ?_⟩
  have hl : (t.data.toList.take b ++ rem.data.toList).length = b + rem.size := by rw [List.length_append, List.length_take, ba_len, ba_len]; omega
  rw [ins_list, List.drop_left' hl]
theorem ins_pk (t rem : ByteArray) {b : Nat} (hb : b ≤ t.size) (j : Nat) (hj : j < rem.size) : pk (ins t rem b) (b + j) = pk rem j := by
  have hl : (t.data.toList.take b).length = b := by rw [List.length_take, ba_len]; omega
  rw [pk_get, pk_get, ins_list, List.append_assoc, List.getElem?_append_right (by omega), hl, show b + j - b = j by omega, List.getElem?_append_left (by rw [ba_len]; exact hj)]
theorem cm_run (t : ByteArray) (a : Int) : ∀ (n i : Nat), (∀ j, j < n → bTx (pk t (i + j)) = true ∧ pk t (i + j) ≠ 35) → pk t (i + n) = 35 → i + n < t.size → cmE t a i = (((i + n : Nat) : Int) + 1, 0, 0)
  | 0, i, _, h, hl => by
    rw [Nat.add_zero] at h hl ⊢
    rw [cm_end hl (by rw [h]; rfl) h]
  | n + 1, i, hj, h, hl => by
    have h0 := hj 0 (by omega)
    rw [Nat.add_zero] at h0
    rw [cm_next (by omega) h0.1 h0.2, cm_run t a n (i + 1) (fun j hlt => by rw [show i + 1 + j = i + (j + 1) by omega]; exact hj (j + 1) (by omega)) (by rw [show i + 1 + n = i + (n + 1) by omega]; exact h) (by omega)]
    rw [show i + 1 + n = i + (n + 1) by omega]
/-- What may be put in: blanks, or a comment. -/
def rmk (rem : ByteArray) : Prop := 0 < rem.size ∧ ((∀ j, j < rem.size → bBl (pk rem j) = true) ∨ (2 ≤ rem.size ∧ pk rem 0 = 35 ∧ pk rem (rem.size - 1) = 35 ∧ ∀ j, 1 ≤ j → j < rem.size - 1 → bTx (pk rem j) = true ∧ pk rem j ≠ 35))
theorem ins_blank {t rem : ByteArray} {b : Nat} (hb : b ≤ t.size) (hr : ∀ j, j < rem.size → bBl (pk rem j) = true) (hn : bBl (pk t b) = false) : ∀ (n j : Nat), j + n = rem.size → sk (ins t rem b) (b + j) = b + rem.size
  | 0, j, h => by
    have hs := ins_sf t rem hb
    have e : pk (ins t rem b) (b + j) = pk t b := by rw [show j = rem.size by omega]; exact sf_pk hs (Nat.le_refl b)
    have : sk (ins t rem b) (b + j) = b + j := ru_no (by rw [e]; exact hn)
    rw [this]; omega
  | n + 1, j, h => by
    have e : sk (ins t rem b) (b + j) = sk (ins t rem b) (b + j + 1) := ru_yes (by rw [ins_pk t rem hb j (by omega)]; exact hr j (by omega))
    rw [e]
    exact ins_blank hb hr hn n (j + 1) (by omega)
/-- Blanks or a comment before a symbol change nothing but At. -/
theorem ins_any {r : Int} {t rem : ByteArray} (h : (syF r t).2.1 = 0) (hz : t.size + rem.size ≤ 65536) (hr : rmk rem) (i b : Nat) (hi : i < (syF r t).2.2.length) (hb : (((syF r t).2.2)[i]?).map (·.2.2) = some (b : Int)) :
    (syF r (ins t rem b)).2.1 = 0 ∧ er (syF r (ins t rem b)).2.2 = er (syF r t).2.2 := by
  obtain ⟨h1, h2, h3, h4⟩ := syF_ok h
  obtain ⟨r', b', k1, k2, k3, k4⟩ := sy_place h i hi
  have hbb : b' = b := by rw [k2] at hb; have := Option.some.inj hb; omega
  subst hbb
  have hsf := ins_sf t rem k1
  have hp0 := ins_pk t rem k1 0 hr.1
  rw [Nat.add_zero] at hp0
  have hpf : Pf t (ins t rem b') b' := by
    refine ⟨k1, by rw [ins_size t rem k1]; omega, ins_take t rem k1, ?_, k3⟩
    rw [hp0]
    rcases hr.2 with q | q
    · have q0 := q 0 hr.1
      unfold bBl at q0
      rw [decide_eq_true_eq] at q0
      rcases q0 with q0 | q0 | q0
      · exact Or.inr (Or.inl q0)
      · exact Or.inr (Or.inr (Or.inl q0))
      · exact Or.inr (Or.inr (Or.inr (Or.inl q0)))
    · exact Or.inr (Or.inr (Or.inr (Or.inr q.2.1)))
  have hfin := vis_sy k4
  obtain ⟨l', hl'⟩ : ∃ l', (syF r t).2.2.take i = l' := ⟨_, rfl⟩
  rw [hl'] at k4 hfin
  have hlk : ∀ r s, Lk r t (ins t rem b') b' s := by
    intro r s
    rcases hr.2 with q | ⟨q0, q1, q2, q3⟩
    · exact Or.inr ⟨rem.size, hsf, ins_blank k1 q k3 rem.size 0 (by omega)⟩
    · have e : sk (ins t rem b') b' = b' := ru_no (by rw [hp0, q1]; rfl)
      refine Or.inl ⟨?_, ?_, ?_⟩
      · rw [e]; unfold ch; rw [hp0, q1]; unfold chB; rfl
      · rw [e, hp0, q1]; rintro ⟨k, _⟩; exact absurd k (by decide)
      · rw [e, hp0, q1]; rintro (k | k) <;> exact absurd k (by decide)
  have hv := vis_pf hpf hlk k4 0 (Nat.zero_le _) rfl
  have hat : syL r' (ins t rem b') (sk (ins t rem b') b') l' = syL r' (ins t rem b') (b' + rem.size) l' := by
    rcases hr.2 with q | ⟨q0, q1, q2, q3⟩
    · rw [show sk (ins t rem b') b' = b' + rem.size from ins_blank k1 q k3 rem.size 0 (by omega)]
    · have e : sk (ins t rem b') b' = b' := ru_no (by rw [hp0, q1]; rfl)
      have hlt : b' < (ins t rem b').size := by rw [ins_size t rem k1]; omega
      have hcm : cmE (ins t rem b') (b' : Int) (b' + 1) = (((b' + rem.size : Nat) : Int), 0, 0) := by
        rw [cm_run (ins t rem b') (b' : Int) (rem.size - 2) (b' + 1) (fun j hj => by
          rw [show b' + 1 + j = b' + (1 + j) by omega, ins_pk t rem k1 (1 + j) (by omega)]
          exact q3 (1 + j) (by omega) (by omega)) (by
          rw [show b' + 1 + (rem.size - 2) = b' + (rem.size - 1) by omega, ins_pk t rem k1 _ (by omega)]; exact q2) (by rw [ins_size t rem k1]; omega)]
        simp only [Prod.mk.injEq, and_true]
        omega
      have hst : stR r' (ins t rem b') b' l' = ⟨r', ((b' + rem.size : Nat) : Int), l', 0, 0⟩ := by
        unfold stR
        rw [if_pos (hp0.trans q1), hcm]
      have hsk : sk (ins t rem b') (b' + rem.size) = b' + rem.size := ru_no (by rw [sf_pk hsf (Nat.le_refl b')]; exact k3)
      rw [e, sy_go hlt (by rw [hst]) (n := b' + rem.size) (by rw [hst]), hst, hsk]
  have hsh := sf_syL hsf (t.size) b' r' l' l' (by omega) rfl (Nat.le_refl _)
  rw [← hat, ← hv, ← hfin] at hsh
  have hc : (syL r (ins t rem b') (sk (ins t rem b') 0) []).2.1 = 0 := hsh.1.trans h3
  rw [syF_mk h1 (by rw [ins_size t rem k1]; exact hz) hc, h4]
  exact ⟨rfl, er_end _ _ _ _ (hsh.2.1 h3)⟩
/-- The beginning of a text up to a symbol has the symbols before it. -/
theorem pre_any {r : Int} {t : ByteArray} (h : (syF r t).2.1 = 0) (i b : Nat) (hi : i < (syF r t).2.2.length) (hb : (((syF r t).2.2)[i]?).map (·.2.2) = some (b : Int)) :
    syF r (t.extract 0 b) = (0, 0, (syF r t).2.2.take i ++ [(0, ⟨#[]⟩, (b : Int))]) := by
  obtain ⟨h1, h2, h3, h4⟩ := syF_ok h
  obtain ⟨r', b', k1, k2, k3, k4⟩ := sy_place h i hi
  have hbb : b' = b := by rw [k2] at hb; have := Option.some.inj hb; omega
  subst hbb
  have hl : (t.extract 0 b').data.toList = t.data.toList.take b' := by rw [Lib.extract_data]; simp
  have hsz : (t.extract 0 b').size = b' := by
    have := congrArg List.length hl
    rw [ba_len, List.length_take, ba_len] at this
    omega
  have hp : pk (t.extract 0 b') b' = 0 := pk_out (by omega)
  have hpf : Pf t (t.extract 0 b') b' := ⟨k1, by omega, by rw [hl, List.take_take, Nat.min_self], Or.inl hp, k3⟩
  have e : sk (t.extract 0 b') b' = b' := ru_no (by rw [hp]; rfl)
  have hlk : ∀ r s, Lk r t (t.extract 0 b') b' s := by
    intro r s
    refine Or.inl ⟨?_, ?_, ?_⟩
    · rw [e]; unfold ch; rw [hp]; unfold chB; rfl
    · rw [e, hp]; rintro ⟨k, _⟩; exact absurd k (by decide)
    · rw [e, hp]; rintro (k | k) <;> exact absurd k (by decide)
  have hv := vis_pf hpf hlk k4 0 (Nat.zero_le _) rfl
  rw [e, sy_end (t := t.extract 0 b') (a := b') (by omega)] at hv
  rw [syF_mk h1 (by omega) (by rw [hv]), hv, hsz]
/-- A text behind a beginning that sets the regime. -/
theorem reg_sy {r r' : Int} {hd t : ByteArray} (hr : 0 ≤ r ∧ r ≤ 2) (hr' : 0 ≤ r' ∧ r' ≤ 2) (hz : hd.size + 1 + t.size ≤ 65536) (h0 : 0 < hd.size) (hb : bBl (pk hd 0) = false)
    (hnot : ¬ (bDi (pk hd 0) = true ∨ (pk hd 0 = 46 ∧ bDi (pk hd (0 + 1)) = true) ∨ bSm (ch r hd 0) = true))
    (hst : stR r hd 0 [] = ⟨r', (hd.size : Int), [], 0, 0⟩) :
    (syF r (hd ++ ⟨#[32]⟩ ++ t)).2.1 = (syF r' t).2.1 ∧ ((syF r' t).2.1 ≠ 0 → (syF r (hd ++ ⟨#[32]⟩ ++ t)).1 = (syF r' t).1 + ((hd.size + 1 : Nat) : Int)) ∧ ((syF r' t).2.1 = 0 → er (syF r (hd ++ ⟨#[32]⟩ ++ t)).2.2 = er (syF r' t).2.2) := by
  obtain ⟨T, hT⟩ : ∃ T, hd ++ ⟨#[32]⟩ ++ t = T := ⟨_, rfl⟩
  rw [hT]
  have hlist : T.data.toList = hd.data.toList ++ [32] ++ t.data.toList := by rw [← hT, data_app, data_app]
  have hsz : T.size = hd.size + 1 + t.size := by
    have := congrArg List.length hlist
    simp only [List.length_append, ba_len, List.length_singleton] at this
    exact this
  have hpb : pk T hd.size = 32 := by
    rw [pk_get, hlist, List.append_assoc, List.getElem?_append_right (by rw [ba_len]; exact Nat.le_refl _), ba_len, Nat.sub_self]; rfl
  have hpf : Pf hd T hd.size := by
    refine ⟨Nat.le_refl _, by omega, ?_, Or.inr (Or.inr (Or.inr (Or.inl hpb))), by rw [pk_out (Nat.le_refl _)]; rfl⟩
    rw [hlist, List.append_assoc, List.take_append_of_le_length (by rw [ba_len]; exact Nat.le_refl _)]
  have hsf : Sf t T 0 (hd.size + 1) := by
    refine ⟨Nat.zero_le _, by omega, ?_⟩
    rw [hlist, Nat.zero_add, List.drop_left' (by rw [List.length_append, ba_len]; rfl)]; rfl
  have hs0 : sk T 0 = 0 := ru_no (by rw [pf_pk hpf h0]; exact hb)
  have hst' : stR r T 0 [] = ⟨r', (hd.size : Int), [], 0, 0⟩ := by
    rw [← hst]
    refine pf_stR hpf 0 [] h0 (by rw [hst]) ?_ (by rw [hst]; exact Int.le_refl _)
    exact fun k => absurd k hnot
  have hsk : sk T hd.size = sk t 0 + (hd.size + 1) := by
    have e : sk T hd.size = sk T (hd.size + 1) := ru_yes (by rw [hpb]; rfl)
    have e2 := sf_sk hsf 0 (Nat.le_refl _)
    rw [Nat.zero_add] at e2
    rw [e, e2]
  have hgo : syL r T (sk T 0) [] = syL r' T (sk t 0 + (hd.size + 1)) [] := by
    rw [hs0, sy_go (by omega) (by rw [hst']) (n := hd.size) (by rw [hst']), hst', hsk]
  have hsh := sf_syL hsf t.size (sk t 0) r' [] [] (by omega) rfl (Nat.zero_le _)
  rw [← hgo] at hsh
  by_cases hc : (syL r' t (sk t 0) []).2.1 = 0
  · rw [syF_mk hr (by omega) (hsh.1.trans hc), syF_mk hr' (by omega) hc]
    exact ⟨rfl, fun k => absurd rfl k, fun _ => er_end _ _ _ _ (hsh.2.1 hc)⟩
  · rw [syF_bad hr (by omega) (by rw [hsh.1]; exact hc), syF_bad hr' (by omega) hc]
    exact ⟨hsh.1, fun _ => hsh.2.2 hc, fun k => absurd k hc⟩
end Go.Proofs.YtbnldpcbdeeflaaGreatDoor
