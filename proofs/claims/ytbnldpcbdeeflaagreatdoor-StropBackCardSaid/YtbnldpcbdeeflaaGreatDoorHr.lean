/- Symbols but strings read back as they are written. No conditions. -/
import Derived.Test.YtbnldpcbdeeflaaGreatDoorHv
namespace Go.Proofs.YtbnldpcbdeeflaaGreatDoor
open Go.ChangeShapes Go.WideShapes Go.ChangeAt Go.RowKit



/-- A symbol's writing in a regime, alone, reads as the symbol. -/
def RB (q k : Int) (x : ByteArray) : Prop := stR q (wrF k q x) 0 [] = ⟨q, ((wrF k q x).size : Int), [(k, x, 0)], 0, 0⟩ ∧ 0 < (wrF k q x).size ∧ bBl (pk (wrF k q x) 0) = false
theorem pk_at {t : ByteArray} {pre rest : List UInt8} {c : UInt8} (h : t.data.toList = pre ++ c :: rest) : pk t pre.length = (c.toNat : Int) := by
  rw [pk_get, h, List.getElem?_append_right (Nat.le_refl _), Nat.sub_self]; rfl
theorem pk_end {t : ByteArray} {pre : List UInt8} (h : t.data.toList = pre) : pk t pre.length = 0 := by
  rw [pk_get, h, List.getElem?_eq_none (Nat.le_refl _)]; rfl
theorem sd_bl {c : Int} (h : bSd c = true) : bBl c = false := by
  unfold bSd bSm bDi at h
  simp only [Bool.or_eq_true, decide_eq_true_eq] at h
  exact decide_eq_false (by omega)
theorem sdc_ch {q c : Int} (h : bSd c = true) : chB q c = c := by
  have h2 := h
  unfold bSd bSm bDi at h2
  simp only [Bool.or_eq_true, decide_eq_true_eq] at h2
  unfold chB
  have h3 : bCa c = false := decide_eq_false (by omega)
  rw [h3, Bool.false_and, if_neg (by decide), if_pos h]
theorem chb_sd {r c : Int} (h : chB r c ≠ 0) : bSd (chB r c) = true := by
  unfold chB at h ⊢
  split
  · rename_i k
    rw [Bool.and_eq_true] at k
    have := of_decide_eq_true k.1
    unfold bSd bSm
    rw [Bool.or_eq_true]
    exact Or.inl (decide_eq_true (by omega))
  · rename_i k
    rw [if_neg k] at h
    split
    · rename_i k2; exact k2
    · rename_i k2; rw [if_neg k2] at h; exact absurd rfl h
/-- What may follow a run. -/
def stops (f : Int → Bool) (q : Int) (rest : List UInt8) : Prop := rest = [] ∨ ∃ c r', rest = c :: r' ∧ f (chB q (c.toNat : Int)) = false ∧ bBl (c.toNat : Int) = false
theorem sk_list {x : ByteArray} {pre rest : List UInt8} (hx : x.data.toList = pre ++ rest) (h : rest = [] ∨ ∃ c r', rest = c :: r' ∧ bBl (c.toNat : Int) = false) : sk x pre.length = pre.length := by
  refine ru_no ?_
  rcases h with h | ⟨c, r', h, hb⟩
  · rw [h, List.append_nil] at hx; rw [pk_end hx]; rfl
  · rw [h] at hx; rw [pk_at hx]; exact hb
theorem rn_list (f : Int → Bool) (hf : f 0 = false) (q : Int) (x : ByteArray) (rest : List UInt8) (hr : stops f q rest) : ∀ (cs pre : List UInt8) (e : Nat), x.data.toList = pre ++ cs ++ rest → (∀ c ∈ cs, f (c.toNat : Int) = true ∧ bSd (c.toNat : Int) = true) → rn f hf q x pre.length e = (cs, if cs = [] then e else pre.length + cs.length) := by
  intro cs
  induction cs with
  | nil =>
    intro pre e hx _
    rw [List.append_nil] at hx
    rw [if_pos rfl]
    refine rn_no ?_
    unfold ch
    rcases hr with h | ⟨c, r', h, hb, _⟩
    · rw [h, List.append_nil] at hx; rw [pk_end hx, chB0]; exact hf
    · rw [h] at hx; rw [pk_at hx]; exact hb
  | cons c cs ih =>
    intro pre e hx hc
    obtain ⟨h1, h2⟩ := hc c List.mem_cons_self
    have hp : pk x pre.length = (c.toNat : Int) := pk_at (rest := cs ++ rest) (by rw [hx]; simp)
    have hch : ch q x pre.length = (c.toNat : Int) := by unfold ch; rw [hp, sdc_ch h2]
    have hcu : cu (c.toNat : Int) = c := by unfold cu; rw [Int.toNat_natCast, UInt8.ofNat_toNat]
    have hl : (pre ++ [c]).length = pre.length + 1 := by simp
    have hx2 : x.data.toList = (pre ++ [c]) ++ cs ++ rest := by rw [hx]; simp
    have hsk : sk x (pre.length + 1) = pre.length + 1 := by
      rw [← hl]
      refine sk_list (rest := cs ++ rest) (by rw [hx2, List.append_assoc]) ?_
      cases cs with
      | nil =>
        rcases hr with h | ⟨d, r', h, _, hb⟩
        · exact Or.inl (by rw [h]; rfl)
        · exact Or.inr ⟨d, r', by rw [h]; rfl, hb⟩
      | cons d ds => exact Or.inr ⟨d, ds ++ rest, rfl, sd_bl (hc d (List.mem_cons_of_mem _ List.mem_cons_self)).2⟩
    have hi := ih (pre ++ [c]) (pre.length + 1) hx2 (fun d hd => hc d (List.mem_cons_of_mem _ hd))
    rw [hl] at hi
    rw [rn_yes (by rw [hch]; exact h1), hsk, hi, hch, hcu, if_neg (List.cons_ne_nil c cs)]
    congr 1
    rw [List.length_cons]
    by_cases h0 : cs = []
    · rw [if_pos h0, h0]; rfl
    · rw [if_neg h0]; show pre.length + 1 + cs.length = _; omega
theorem rnF_list (f : Int → Bool) (hf : f 0 = false) (q : Int) (x : ByteArray) (cs pre rest : List UInt8) (hx : x.data.toList = pre ++ cs ++ rest) (hc : ∀ c ∈ cs, f (c.toNat : Int) = true ∧ bSd (c.toNat : Int) = true) (hr : stops f q rest) : rnF f hf q x pre.length = (cs, pre.length + cs.length) := by
  have hsk : sk x pre.length = pre.length := by
    refine sk_list (rest := cs ++ rest) (by rw [hx, List.append_assoc]) ?_
    cases cs with
    | nil =>
      rcases hr with h | ⟨d, r', h, _, hb⟩
      · exact Or.inl (by rw [h]; rfl)
      · exact Or.inr ⟨d, r', by rw [h]; rfl, hb⟩
    | cons d ds => exact Or.inr ⟨d, ds ++ rest, rfl, sd_bl (hc d List.mem_cons_self).2⟩
  unfold rnF
  rw [hsk, rn_list f hf q x rest hr cs pre pre.length hx hc]
  split
  · rename_i h0; rw [h0]; rfl
  · rfl
/-- The characters of a run. -/
theorem rn_chars (f : Int → Bool) (hf : f 0 = false) (r : Int) (t : ByteArray) (i e : Nat) : ∀ c ∈ (rn f hf r t i e).1, f (c.toNat : Int) = true ∧ bSd (c.toNat : Int) = true := by
  intro c hc
  obtain ⟨k, rfl, hk⟩ := rn_all f hf r t i e c hc
  have hb := ch_bd r t k
  have hn : ((cu (ch r t k)).toNat : Int) = ch r t k := by rw [cu_nat hb.1 hb.2]; omega
  rw [hn]
  refine ⟨hk, chb_sd ?_⟩
  intro h0
  have h1 : ch r t k = 0 := h0
  rw [h1, hf] at hk; cases hk
theorem ru_list (f : Int → Bool) (hf : f 0 = false) (x : ByteArray) : ∀ (cs pre rest : List UInt8), x.data.toList = pre ++ cs ++ rest → (∀ c ∈ cs, f (c.toNat : Int) = true) → (rest = [] ∨ ∃ c r', rest = c :: r' ∧ f (c.toNat : Int) = false) → ru f hf x pre.length = pre.length + cs.length := by
  intro cs
  induction cs with
  | nil =>
    intro pre rest hx _ hr
    rw [List.append_nil] at hx
    refine ru_no ?_
    rcases hr with h | ⟨c, r', h, hb⟩
    · rw [h, List.append_nil] at hx; rw [pk_end hx]; exact hf
    · rw [h] at hx; rw [pk_at hx]; exact hb
  | cons c cs ih =>
    intro pre rest hx hc hr
    have hp : pk x pre.length = (c.toNat : Int) := pk_at (rest := cs ++ rest) (by rw [hx]; simp)
    have hl : (pre ++ [c]).length = pre.length + 1 := by simp
    have hi := ih (pre ++ [c]) rest (by rw [hx]; simp) (fun d hd => hc d (List.mem_cons_of_mem _ hd)) hr
    rw [hl] at hi
    rw [ru_yes (by rw [hp]; exact hc c List.mem_cons_self), hi, List.length_cons]
    omega
theorem mk_eq {x : ByteArray} {l : List UInt8} (h : x.data.toList = l) : x = ⟨l.toArray⟩ := by
  rw [← h, Array.toArray_toList]
theorem wr_no {k q : Int} {x : ByteArray} (h1 : k ≠ 1) (h6 : k ≠ 6) (h7 : k ≠ 7) : wrF k q x = x := by unfold wrF; rw [if_neg h1, if_neg h6, if_neg h7]
/-- Tags. -/
theorem rb_tag {r q : Int} {t : ByteArray} (hb : bSm (ch r t 0) = true) (hz : (ByteArray.mk (rnF bSd bSd0 r t 0).1.toArray).size ≤ 40) : RB q 2 ⟨(rnF bSd bSd0 r t 0).1.toArray⟩ := by
  obtain ⟨x, hx⟩ : ∃ x : ByteArray, (⟨(rnF bSd bSd0 r t 0).1.toArray⟩ : ByteArray) = x := ⟨_, rfl⟩
  have hs0 : sk t 0 = 0 := ru_no (sm_bl hb)
  have hsd : bSd (ch r t 0) = true := by unfold bSd; rw [hb]; rfl
  obtain ⟨cs, hcs⟩ : ∃ cs, (rnF bSd bSd0 r t 0).1 = cu (ch r t 0) :: cs := by
    unfold rnF; rw [hs0, rn_yes hsd]; exact ⟨_, rfl⟩
  have hall := rn_chars bSd bSd0 r t (sk t 0) 0
  have hl : x.data.toList = cu (ch r t 0) :: cs := by rw [← hx, ← hcs]
  have hall' : ∀ c ∈ cu (ch r t 0) :: cs, bSd (c.toNat : Int) = true ∧ bSd (c.toNat : Int) = true := by
    rw [← hcs]; exact hall
  have hbd := ch_bd r t 0
  have hn : ((cu (ch r t 0)).toNat : Int) = ch r t 0 := by rw [cu_nat hbd.1 hbd.2]; omega
  have hp : pk x 0 = ch r t 0 := by
    have := pk_at (pre := []) (t := x) hl
    rw [hn] at this; exact this
  rw [hx] at hz ⊢
  have hsz : x.size = cs.length + 1 := by rw [← ba_len, hl]; rfl
  have hrn : rnF bSd bSd0 q x 0 = (cu (ch r t 0) :: cs, 0 + (cu (ch r t 0) :: cs).length) := rnF_list bSd bSd0 q x (cu (ch r t 0) :: cs) [] [] (by rw [hl]; simp) hall' (Or.inl rfl)
  have hch : ch q x 0 = ch r t 0 := by
    show chB q (pk x 0) = ch r t 0
    rw [hp]; exact sdc_ch hsd
  have hsm : 97 ≤ ch r t 0 ∧ ch r t 0 ≤ 122 := of_decide_eq_true hb
  unfold RB
  rw [wr_no (by decide) (by decide) (by decide)]
  refine ⟨?_, by omega, by rw [hp]; exact sd_bl hsd⟩
  unfold stR
  rw [hp, if_neg (by omega), if_neg (by omega), if_neg (by omega), if_neg (by
    rintro (k | k)
    · have := of_decide_eq_true k; omega
    · omega), hch, if_pos hb, hrn]
  unfold shR
  rw [← mk_eq hl, if_neg (by omega)]
  simp only [List.length_cons, hsz, List.nil_append]
  congr 1
  omega
/-- Signs. -/
theorem rb_sign {q : Int} (hq : 0 ≤ q ∧ q ≤ 2) {s : List UInt8} (hs : s ∈ sgs) : RB q 8 ⟨s.toArray⟩ := by
  unfold RB
  rw [wr_no (by decide) (by decide) (by decide)]
  have H : ∀ q : Fin 3, ∀ s ∈ sgs, (stR (q.val : Int) ⟨s.toArray⟩ 0 []).r = (q.val : Int) ∧ (stR (q.val : Int) ⟨s.toArray⟩ 0 []).a = ((ByteArray.mk s.toArray).size : Int) ∧ (stR (q.val : Int) ⟨s.toArray⟩ 0 []).l = [(8, ⟨s.toArray⟩, 0)] ∧ (stR (q.val : Int) ⟨s.toArray⟩ 0 []).p = 0 ∧ (stR (q.val : Int) ⟨s.toArray⟩ 0 []).c = 0 ∧ 0 < (ByteArray.mk s.toArray).size ∧ bBl (pk ⟨s.toArray⟩ 0) = false := by decide +kernel
  obtain ⟨h1, h2, h3, h4, h5, h6, h7⟩ := H ⟨q.toNat, by omega⟩ s hs
  have hqq : ((q.toNat : Nat) : Int) = q := by omega
  simp only [hqq] at h1 h2 h3 h4 h5
  exact ⟨rs_ext h1 h2 h3 h4 h5, h6, h7⟩
theorem fm_cg {t w : ByteArray} {n : Nat} (hn : n ≤ t.size) (hw : n ≤ w.size) (h : ∀ j, j < n → pk w j = pk t j) (a : Int) (i : Nat) (wi : Bool) (hc : (fmE t a i wi).2.1 = 0) (he : (fmE t a i wi).2.2 < n) : fmE w a i wi = fmE t a i wi := by
  have hu := fm_up t a i wi hc
  have hib : i < n := by omega
  have hl : litF w i a = litF t i a := by
    unfold litF
    rw [if_pos (show i < w.size by omega), if_pos (show i < t.size by omega), h i hib]
  have p0 := h i hib
  by_cases h36 : wi = false ∧ pk t i = 36
  · obtain ⟨rfl, h36⟩ := h36
    rw [fm_end h36, fm_end (p0.trans h36)]
  · have h36' : ¬ (wi = false ∧ pk w i = 36) := by rw [p0]; exact h36
    by_cases k : (litF t i a).2 = 0
    · have hlt := lit_lt k
      rw [fm_go h36 k] at hc he ⊢
      rw [fm_go h36' (by rw [hl]; exact k), p0]
      exact fm_cg hn hw h a (i + 1) _ hc he
    · rw [fm_bad h36 k] at hc
      exact absurd hc k
termination_by t.size - i
theorem fm_36 (t : ByteArray) (a : Int) (i : Nat) (wi : Bool) (hc : (fmE t a i wi).2.1 = 0) : pk t (fmE t a i wi).2.2 = 36 := by
  by_cases h36 : wi = false ∧ pk t i = 36
  · obtain ⟨rfl, h36⟩ := h36
    rw [fm_end h36]; exact h36
  · by_cases k : (litF t i a).2 = 0
    · have hlt := lit_lt k
      rw [fm_go h36 k] at hc ⊢
      exact fm_36 t a (i + 1) _ hc
    · rw [fm_bad h36 k] at hc
      exact absurd hc k
termination_by t.size - i
theorem fm_0 (t : ByteArray) (a : Int) (i : Nat) (wi : Bool) (hc : (fmE t a i wi).2.1 = 0) : (fmE t a i wi).1 = 0 := by
  by_cases h36 : wi = false ∧ pk t i = 36
  · obtain ⟨rfl, h36⟩ := h36
    rw [fm_end h36]
  · by_cases k : (litF t i a).2 = 0
    · have hlt := lit_lt k
      rw [fm_go h36 k] at hc ⊢
      exact fm_0 t a (i + 1) _ hc
    · rw [fm_bad h36 k] at hc
      exact absurd hc k
termination_by t.size - i
/-- Formats. -/
theorem rb_form {q : Int} {t : ByteArray} (h0 : pk t 0 = 36) (hc : (fmE t ((0 : Nat) : Int) (0 + 1) false).2.1 = 0) : RB q 7 (t.extract (0 + 1) (fmE t ((0 : Nat) : Int) (0 + 1) false).2.2) := by
  obtain ⟨i, hi⟩ : ∃ i, (fmE t ((0 : Nat) : Int) (0 + 1) false).2.2 = i := ⟨_, rfl⟩
  have hu := fm_up t ((0 : Nat) : Int) (0 + 1) false hc
  have h36 := fm_36 t ((0 : Nat) : Int) (0 + 1) false hc
  rw [hi] at hu h36 ⊢
  have hw : wrF 7 q (t.extract (0 + 1) i) = ⟨#[36]⟩ ++ t.extract (0 + 1) i ++ ⟨#[36]⟩ := by unfold wrF; rw [if_neg (by decide), if_neg (by decide), if_pos rfl]
  obtain ⟨w, hww⟩ : ∃ w, ⟨#[36]⟩ ++ t.extract (0 + 1) i ++ ⟨#[36]⟩ = w := ⟨_, rfl⟩
  have hl : w.data.toList = [36] ++ List.take (i - 1) (List.drop 1 t.data.toList) ++ [36] := by
    rw [← hww, data_app, data_app, Lib.extract_data]
  have hin : (List.take (i - 1) (List.drop 1 t.data.toList)).length = i - 1 := by rw [List.length_take, List.length_drop, ba_len]; omega
  have hsz : w.size = i + 1 := by
    rw [← ba_len, hl, List.length_append, List.length_append, hin]
    simp only [List.length_singleton]; omega
  have hag : ∀ j, j < i + 1 → pk w j = pk t j := by
    intro j hj
    rcases (by omega : j = 0 ∨ (1 ≤ j ∧ j < i) ∨ j = i) with e | ⟨e1, e2⟩ | e
    · subst e
      rw [h0]
      exact pk_at (pre := []) (t := w) (by rw [hl]; rfl)
    · rw [pk_get, pk_get, hl, List.append_assoc, List.getElem?_append_right (by simp; omega), List.getElem?_append_left (by rw [hin]; simp; omega), List.getElem?_take, if_pos (by simp; omega), List.getElem?_drop]
      simp only [List.length_singleton]
      rw [show 1 + (j - 1) = j by omega]
    · subst e
      rw [h36, pk_get, hl, List.getElem?_append_right (by rw [List.length_append, hin]; simp; omega)]
      rw [List.length_append, hin]
      simp only [List.length_singleton]
      rw [show j - (1 + (j - 1)) = 0 by omega]; rfl
  have hf : fmE w ((0 : Nat) : Int) (0 + 1) false = (0, 0, i) := by
    rw [fm_cg (n := i + 1) (by omega) (by omega) hag _ _ _ hc (by omega)]
    exact Prod.ext (fm_0 t ((0 : Nat) : Int) (0 + 1) false hc) (Prod.ext hc hi)
  unfold RB
  rw [hw, hww]
  have hp0 := (hag 0 (by omega)).trans h0
  refine ⟨?_, by omega, by rw [hp0]; rfl⟩
  unfold stR
  rw [hp0, if_neg (by decide), if_neg (by decide), if_pos rfl]
  rw [fmR_ok hf]
  have hx : w.extract (0 + 1) i = t.extract (0 + 1) i := by
    have : (w.extract (0 + 1) i).data.toList = (t.extract (0 + 1) i).data.toList := by
      rw [Lib.extract_data, Lib.extract_data, hl]
      simp
      rw [List.take_left' (by rw [← hin]; simp)]
    exact ByteArray.ext (Array.toList_inj.1 this)
  rw [hx, hsz]
  simp only [List.nil_append]
  rfl


/-- Digits. -/
def dgs (l : List UInt8) : Prop := ∀ c ∈ l, bDi (c.toNat : Int) = true ∧ bSd (c.toNat : Int) = true
/-- A point and digits, or nothing. -/
def ptF (l : List UInt8) : Prop := l = [] ∨ ∃ d, l = 46 :: d ∧ d ≠ [] ∧ dgs d
/-- An exponent, or nothing. -/
def exQ (l : List UInt8) : Prop := l = [] ∨ ∃ s d, l = 101 :: (s ++ d) ∧ (s = [] ∨ s = [43] ∨ s = [45]) ∧ d ≠ [] ∧ dgs d
theorem dgs_rn (r : Int) (t : ByteArray) (i : Nat) : dgs (rnF bDi bDi0 r t i).1 := rn_chars bDi bDi0 r t _ _
theorem extl_one {t : ByteArray} {p : Nat} (h : p < t.size) : (t.extract p (p + 1)).data.toList = [cu (pk t p)] := by
  have hl : p < t.data.toList.length := by rw [ba_len]; exact h
  rw [Lib.extract_data, Nat.add_sub_cancel_left, List.drop_eq_getElem_cons hl]
  have e : pk t p = ((t.data.toList[p]).toNat : Int) := by rw [pk_get, List.getElem?_eq_getElem hl]; rfl
  rw [e]
  unfold cu
  rw [Int.toNat_natCast, UInt8.ofNat_toNat]
  rfl
theorem ex_form (r : Int) (t : ByteArray) (a : Nat) : exQ (exF r t a).1.data.toList := by
  unfold exF
  split
  · split
    · rename_i h
      have hlt : sk t (sk t a + 1) < t.size := by
        rcases h with h | h
        · exact pk_lt h (by decide)
        · exact pk_lt h (by decide)
      unfold exS
      split
      · exact Or.inl rfl
      · rename_i hd
        refine Or.inr ⟨[cu (pk t (sk t (sk t a + 1)))], _, ?_, ?_, hd, dgs_rn r t _⟩
        · rw [data_app, data_app, extl_one hlt]; rfl
        · rcases h with h | h
          · exact Or.inr (Or.inl (by rw [h]; rfl))
          · exact Or.inr (Or.inr (by rw [h]; rfl))
    · unfold exS
      split
      · exact Or.inl rfl
      · rename_i hd
        exact Or.inr ⟨[], _, by rw [data_app]; rfl, Or.inl rfl, hd, dgs_rn r t _⟩
  · exact Or.inl rfl
/-- What a number's text is. -/
theorem nb_form (r : Int) (t : ByteArray) (a : Nat) : ((nbF r t a).1 = 5 ∧ ∃ d, d ≠ [] ∧ d = (rdF r t (rnF bDi bDi0 r t a).2).1 ∧ (∀ c ∈ d, bHx (c.toNat : Int) = true ∧ bSd (c.toNat : Int) = true) ∧ (nbF r t a).2.1.data.toList = (rnF bDi bDi0 r t a).1 ++ 114 :: d) ∨
    (∃ p e, ptF p ∧ exQ e ∧ (rdF r t (rnF bDi bDi0 r t a).2).1 = [] ∧ (nbF r t a).2.1.data.toList = (rnF bDi bDi0 r t a).1 ++ p ++ e ∧ (nbF r t a).1 = (if p = [] ∧ e = [] then 3 else 4) ∧ ((pk t (sk t (rnF bDi bDi0 r t a).2) = 46 ∧ bDi (pk t (sk t (rnF bDi bDi0 r t a).2 + 1)) = true) → p ≠ [])) := by
  unfold nbF
  split
  · rename_i h0
    right
    have hx := fun n => ex_form r t n
    have hm : ∃ p, ptF p ∧ (mnF r t (rnF bDi bDi0 r t a)).2.1.data.toList = (rnF bDi bDi0 r t a).1 ++ p ∧ (mnF r t (rnF bDi bDi0 r t a)).1 = (if p = [] then 3 else 4) ∧ ((pk t (sk t (rnF bDi bDi0 r t a).2) = 46 ∧ bDi (pk t (sk t (rnF bDi bDi0 r t a).2 + 1)) = true) → p ≠ []) := by
      unfold mnF
      split
      · rename_i h
        have hd := di_ch (r := r) h.2
        have hs : sk t (sk t (rnF bDi bDi0 r t a).2 + 1) = sk t (rnF bDi bDi0 r t a).2 + 1 := ru_no hd.2
        have hne : (rnF bDi bDi0 r t (sk t (rnF bDi bDi0 r t a).2 + 1)).1 ≠ [] := by
          revert hs hd
          generalize sk t (rnF bDi bDi0 r t a).2 + 1 = m
          intro hd hs
          unfold rnF; rw [hs, rn_yes hd.1]; simp
        refine ⟨46 :: (rnF bDi bDi0 r t (sk t (rnF bDi bDi0 r t a).2 + 1)).1, Or.inr ⟨_, rfl, hne, dgs_rn r t _⟩, ?_, by rw [if_neg (by simp)], fun _ => by simp⟩
        rw [data_app, data_app, List.append_assoc]; rfl
      · rename_i h
        exact ⟨[], Or.inl rfl, by rw [List.append_nil], by rw [if_pos rfl], fun k => absurd k h⟩
    obtain ⟨p, hp, hl, hk, hne⟩ := hm
    unfold xnF
    split
    · exact ⟨p, [], hp, Or.inl rfl, h0, by rw [List.append_nil]; exact hl, by rw [hk]; simp, hne⟩
    · rename_i he
      refine ⟨p, _, hp, hx (mnF r t (rnF bDi bDi0 r t a)).2.2, h0, by rw [data_app, hl], ?_, hne⟩
      rw [if_neg ?_]
      rintro ⟨_, k⟩
      exact he (mk_eq k)
  · rename_i h0
    refine Or.inl ⟨rfl, _, h0, rfl, ?_, ?_⟩
    · intro c hc
      unfold rdF at hc
      split at hc
      · exact rn_chars bHx bHx0 r t _ _ c hc
      · cases hc
    · rw [data_app, data_app, List.append_assoc]; rfl
theorem ch_46 (q : Int) : chB q 46 = 0 := by unfold chB; rfl
theorem st_46 (f : Int → Bool) (hf : f 0 = false) (q : Int) (l : List UInt8) : stops f q (46 :: l) := Or.inr ⟨46, l, rfl, by show f (chB q 46) = false; unfold chB; exact hf, rfl⟩
theorem st_101 (q : Int) (l : List UInt8) : stops bDi q (101 :: l) := Or.inr ⟨101, l, rfl, by show bDi (chB q 101) = false; rw [sdc_ch rfl]; rfl, rfl⟩
theorem st_114 (q : Int) (l : List UInt8) : stops bDi q (114 :: l) := Or.inr ⟨114, l, rfl, by show bDi (chB q 114) = false; rw [sdc_ch rfl]; rfl, rfl⟩
theorem st_ex {q : Int} {e : List UInt8} (he : exQ e) : stops bDi q e := by
  rcases he with h | ⟨s, d, h, _⟩
  · exact Or.inl h
  · rw [h]; exact st_101 q _
theorem st_pe {q : Int} {p e : List UInt8} (hp : ptF p) (he : exQ e) : stops bDi q (p ++ e) := by
  rcases hp with h | ⟨d, h, _⟩
  · rw [h]; exact st_ex he
  · rw [h]; exact st_46 bDi bDi0 q _
/-- Bits read back. -/
theorem nbr_bits (q : Int) (x : ByteArray) (ql d : List UInt8) (hq : dgs ql) (hd : d ≠ []) (hc : ∀ c ∈ d, bHx (c.toNat : Int) = true ∧ bSd (c.toNat : Int) = true) (hx : x.data.toList = ql ++ 114 :: d) :
    rnF bDi bDi0 q x 0 = (ql, ql.length) ∧ rdF q x ql.length = (d, x.size) ∧ nbF q x 0 = (5, x, x.size) := by
  have h1 : rnF bDi bDi0 q x 0 = (ql, 0 + ql.length) := rnF_list bDi bDi0 q x ql [] (114 :: d) hx hq (st_114 q d)
  rw [Nat.zero_add] at h1
  have hsk : sk x ql.length = ql.length := sk_list hx (Or.inr ⟨114, d, rfl, rfl⟩)
  have hch : ch q x ql.length = 114 := by unfold ch; rw [pk_at hx]; exact sdc_ch rfl
  have hl : (ql ++ [114]).length = ql.length + 1 := by simp
  have h2 := rnF_list bHx bHx0 q x d (ql ++ [114]) [] (by rw [hx]; simp) hc (Or.inl rfl)
  rw [hl] at h2
  have hsz : x.size = ql.length + 1 + d.length := by rw [← ba_len, hx, List.length_append, List.length_cons]; omega
  have h3 : rdF q x ql.length = (d, x.size) := by
    unfold rdF; rw [hsk, if_pos hch, h2, hsz]
  refine ⟨h1, h3, ?_⟩
  unfold nbF
  rw [h1]
  simp only
  rw [h3, if_neg hd]
  have : (⟨ql.toArray⟩ ++ ⟨#[114]⟩ ++ ⟨d.toArray⟩ : ByteArray) = x := by
    rw [mk_eq hx]
    refine ByteArray.ext (Array.toList_inj.1 ?_)
    rw [data_app, data_app, List.append_assoc]; rfl
  rw [this]
theorem ex_none {q : Int} {x : ByteArray} {pre : List UInt8} (hx : x.data.toList = pre) : (exF q x pre.length).1 = ⟨#[]⟩ := by
  have hsk : sk x pre.length = pre.length := ru_no (by rw [pk_end hx]; rfl)
  unfold exF
  rw [hsk, if_neg (by unfold ch; rw [pk_end hx, chB0]; decide)]
theorem ex_read {q : Int} {x : ByteArray} {pre s d : List UInt8} (hx : x.data.toList = pre ++ 101 :: (s ++ d)) (hs : s = [] ∨ s = [43] ∨ s = [45]) (hd : d ≠ []) (hc : dgs d) : exF q x pre.length = (⟨(101 :: (s ++ d)).toArray⟩, x.size) := by
  have hsk : sk x pre.length = pre.length := sk_list hx (Or.inr ⟨101, s ++ d, rfl, rfl⟩)
  have hch : ch q x pre.length = 101 := by unfold ch; rw [pk_at hx]; exact sdc_ch rfl
  have hl : (pre ++ [101]).length = pre.length + 1 := by simp
  obtain ⟨c, d', rfl⟩ : ∃ c d', d = c :: d' := by cases d with | nil => exact absurd rfl hd | cons c d' => exact ⟨c, d', rfl⟩
  obtain ⟨c1, c2⟩ := hc c List.mem_cons_self
  have hx2 : x.data.toList = (pre ++ [101]) ++ (s ++ c :: d') := by rw [hx]; simp
  have hsz : x.size = pre.length + 1 + (s.length + (d'.length + 1)) := by rw [← ba_len, hx2]; simp; omega
  rcases hs with rfl | hs
  · have hsk2 : sk x (pre.length + 1) = pre.length + 1 := by
      rw [← hl]; exact sk_list hx2 (Or.inr ⟨c, d', rfl, sd_bl c2⟩)
    have hp : pk x (pre.length + 1) = (c.toNat : Int) := by rw [← hl]; exact pk_at hx2
    have hdi : 48 ≤ (c.toNat : Int) ∧ (c.toNat : Int) ≤ 57 := of_decide_eq_true c1
    have h2 := rnF_list bDi bDi0 q x (c :: d') (pre ++ [101]) [] (by rw [hx2]; simp) hc (Or.inl rfl)
    rw [hl] at h2
    unfold exF
    rw [hsk, if_pos hch, hsk2, hp, if_neg (by omega), h2]
    unfold exS
    rw [if_neg (by simp)]
    refine Prod.ext ?_ ?_
    · refine ByteArray.ext (Array.toList_inj.1 ?_)
      rw [data_app]; rfl
    · show pre.length + 1 + (c :: d').length = x.size
      rw [hsz, List.length_cons]; simp
  · obtain ⟨z, hz, hzz⟩ : ∃ z : UInt8, s = [z] ∧ ((z.toNat : Int) = 43 ∨ (z.toNat : Int) = 45) := by
      rcases hs with rfl | rfl
      · exact ⟨43, rfl, Or.inl rfl⟩
      · exact ⟨45, rfl, Or.inr rfl⟩
    subst hz
    have hx3 : x.data.toList = (pre ++ [101]) ++ z :: (c :: d') := by rw [hx2]; rfl
    have hp : pk x (pre.length + 1) = (z.toNat : Int) := by rw [← hl]; exact pk_at hx3
    have hsk2 : sk x (pre.length + 1) = pre.length + 1 := ru_no (by rw [hp]; rcases hzz with k | k <;> rw [k] <;> rfl)
    have hl2 : (pre ++ [101] ++ [z]).length = pre.length + 1 + 1 := by simp
    have h2 := rnF_list bDi bDi0 q x (c :: d') (pre ++ [101] ++ [z]) [] (by rw [hx3]; simp) hc (Or.inl rfl)
    rw [hl2] at h2
    have hcu : cu (z.toNat : Int) = z := by unfold cu; rw [Int.toNat_natCast, UInt8.ofNat_toNat]
    have he := extl_one (t := x) (p := pre.length + 1) (by rw [hsz]; simp only [List.length_singleton]; omega)
    rw [hp, hcu] at he
    unfold exF
    rw [hsk, if_pos hch, hsk2, hp, if_pos hzz, h2]
    unfold exS
    rw [if_neg (by simp)]
    refine Prod.ext ?_ ?_
    · refine ByteArray.ext (Array.toList_inj.1 ?_)
      rw [data_app, data_app, he]; rfl
    · show pre.length + 1 + 1 + (c :: d').length = x.size
      rw [hsz, List.length_cons]; simp; omega
/-- Numbers without a radix read back. -/
theorem nb_read (q : Int) (x : ByteArray) (ql p e : List UInt8) (hq : dgs ql) (hp : ptF p) (he : exQ e) (hx : x.data.toList = ql ++ p ++ e) :
    rnF bDi bDi0 q x 0 = (ql, ql.length) ∧ (rdF q x ql.length).1 = [] ∧ nbF q x 0 = (if p = [] ∧ e = [] then 3 else 4, x, x.size) := by
  have h1 : rnF bDi bDi0 q x 0 = (ql, 0 + ql.length) := rnF_list bDi bDi0 q x ql [] (p ++ e) (by rw [hx]; simp) hq (st_pe hp he)
  rw [Nat.zero_add] at h1
  have hx0 : x.data.toList = ql ++ (p ++ e) := by rw [hx, List.append_assoc]
  have hsk : sk x ql.length = ql.length := by
    refine sk_list hx0 ?_
    rcases st_pe (q := q) hp he with h | ⟨c, r', h, _, hb⟩
    · exact Or.inl h
    · exact Or.inr ⟨c, r', h, hb⟩
  have h2 : (rdF q x ql.length).1 = [] := by
    unfold rdF
    rw [hsk, if_neg ?_]
    unfold ch
    rcases hp with rfl | ⟨d, rfl, _⟩
    · rcases he with rfl | ⟨s, d, rfl, _⟩
      · rw [List.append_nil, List.append_nil] at hx0
        rw [pk_end hx0, chB0]; decide
      · rw [pk_at (rest := s ++ d) hx0, sdc_ch rfl]; decide
    · rw [pk_at (rest := d ++ e) hx0]
      intro k
      have k2 : chB q 46 = 114 := k
      rw [ch_46] at k2; exact absurd k2 (by decide)
  refine ⟨h1, h2, ?_⟩
  have hsz : x.size = (ql ++ p).length + e.length := by rw [← ba_len, hx, List.length_append]
  have hm : mnF q x (ql, ql.length) = (if p = [] then 3 else 4, ⟨(ql ++ p).toArray⟩, (ql ++ p).length) := by
    unfold mnF
    simp only
    rw [hsk]
    rcases hp with rfl | ⟨d, rfl, hd, hdd⟩
    · rw [if_neg, if_pos rfl, List.append_nil]
      rintro ⟨k, _⟩
      rcases he with rfl | ⟨s, d, rfl, _⟩
      · rw [List.append_nil, List.append_nil] at hx0
        rw [pk_end hx0] at k; exact absurd k (by decide)
      · rw [pk_at (rest := s ++ d) hx0] at k; exact absurd k (by decide)
    · obtain ⟨c, d', rfl⟩ : ∃ c d', d = c :: d' := by cases d with | nil => exact absurd rfl hd | cons c d' => exact ⟨c, d', rfl⟩
      have hl : (ql ++ [46]).length = ql.length + 1 := by simp
      have hx2 : x.data.toList = (ql ++ [46]) ++ (c :: d') ++ e := by rw [hx]; simp
      have hp1 : pk x (ql.length + 1) = (c.toNat : Int) := by rw [← hl]; exact pk_at (rest := d' ++ e) (by rw [hx2]; simp)
      have h3 := rnF_list bDi bDi0 q x (c :: d') (ql ++ [46]) e hx2 hdd (st_ex he)
      rw [hl] at h3
      rw [if_pos ⟨pk_at (rest := c :: d' ++ e) (by rw [hx0]; rfl), by rw [hp1]; exact (hdd c List.mem_cons_self).1⟩, h3, if_neg (by simp)]
      refine Prod.ext rfl (Prod.ext ?_ ?_)
      · refine ByteArray.ext (Array.toList_inj.1 ?_)
        rw [data_app, data_app]; simp
      · show ql.length + 1 + (c :: d').length = _
        simp; omega
  unfold nbF
  rw [h1]
  simp only
  rw [h2, if_pos rfl, hm]
  unfold xnF
  simp only
  rcases he with rfl | ⟨s, d, rfl, hs, hd, hdd⟩
  · rw [List.append_nil] at hx
    rw [if_pos (ex_none hx)]
    have hz2 : (ql ++ p).length = x.size := by rw [hsz]; rfl
    rw [hz2, ← mk_eq hx]
    congr 1
    by_cases hp0 : p = []
    · rw [if_pos hp0, if_pos ⟨hp0, rfl⟩]
    · rw [if_neg hp0, if_neg (fun k => hp0 k.1)]
  · rw [ex_read hx hs hd hdd, if_neg (by intro k; have := congrArg (fun y : ByteArray => y.size) k; have h0 : (ByteArray.mk #[]).size = 0 := rfl; have h9 : (ByteArray.mk (101 :: (s ++ d)).toArray).size = (101 :: (s ++ d)).length := List.size_toArray; rw [List.length_cons] at h9; simp only at this; omega), if_neg (by simp)]
    refine Prod.ext rfl (Prod.ext ?_ rfl)
    rw [mk_eq hx]
    refine ByteArray.ext (Array.toList_inj.1 ?_)
    rw [data_app]
/-- Numbers. -/
theorem rb_num {r q : Int} {t : ByteArray} {l : List Sy} (h0 : bDi (pk t 0) = true ∨ pk t 0 = 46 ∧ bDi (pk t (0 + 1)) = true) (hc : (nuR r t 0 l).c = 0) : RB q (nbF r t 0).1 (nbF r t 0).2.1 := by
  have hkk := nb_kind r t 0
  obtain ⟨x, hxe⟩ : ∃ x, (nbF r t 0).2.1 = x := ⟨_, rfl⟩
  have hlc : ¬ 100 < lc (nbF r t 0).2.1 0 := by
    unfold nuR at hc
    intro k; rw [if_pos k] at hc; exact absurd hc (by simp)
  have hab : ¬ ((nbF r t 0).1 = 5 ∧ abF (rnF bDi bDi0 r t 0).1 (rdF r t (rnF bDi bDi0 r t 0).2).1 = false) := by
    unfold nuR at hc
    rw [if_neg hlc] at hc
    intro k; rw [if_pos k] at hc; exact absurd hc (by simp)
  have hdg := dgs_rn r t 0
  have hQ : bDi (pk t 0) = true → ∃ c cs, (rnF bDi bDi0 r t 0).1 = c :: cs := by
    intro k
    have hd := di_ch (r := r) k
    have hs : sk t 0 = 0 := ru_no hd.2
    exact ⟨_, _, by unfold rnF; rw [hs, rn_yes hd.1]⟩
  have hfin : ∀ (k : Int), nbF q x 0 = (k, x, x.size) → (k = 5 → abF (rnF bDi bDi0 q x 0).1 (rdF q x (rnF bDi bDi0 q x 0).2).1 = true) → (nbF r t 0).1 = k → (bDi (pk x 0) = true ∨ pk x 0 = 46 ∧ bDi (pk x (0 + 1)) = true) → RB q (nbF r t 0).1 (nbF r t 0).2.1 := by
    intro k hn hk he hf
    rw [hxe] at hlc ⊢
    rw [he] at hkk ⊢
    unfold RB
    rw [wr_no (by omega) (by omega) (by omega)]
    have hlt : 0 < x.size := by
      rcases hf with k | ⟨k, _⟩
      · exact lt_of_yes bDi0 k
      · exact pk_lt k (by decide)
    have hn34 : pk x 0 ≠ 35 ∧ pk x 0 ≠ 34 ∧ pk x 0 ≠ 36 ∧ bBl (pk x 0) = false := by
      rcases hf with k | ⟨k, _⟩
      · have := of_decide_eq_true k
        exact ⟨by omega, by omega, by omega, decide_eq_false (by omega)⟩
      · rw [k]; exact ⟨by decide, by decide, by decide, rfl⟩
    refine ⟨?_, hlt, hn34.2.2.2⟩
    unfold stR
    rw [if_neg hn34.1, if_neg hn34.2.1, if_neg hn34.2.2.1, if_pos hf]
    unfold nuR
    rw [hn, if_neg hlc, if_neg (by rintro ⟨k5, kf⟩; rw [hk k5] at kf; cases kf)]
    simp only [List.nil_append]
    rfl
  rcases nb_form r t 0 with ⟨k5, d, hd, hde, hdc, hl⟩ | ⟨p, e, hp, he, hr, hl, hk, hpn⟩
  · rw [hxe] at hl
    obtain ⟨b1, b2, b3⟩ := nbr_bits q x _ d hdg hd hdc hl
    refine hfin 5 b3 (fun _ => ?_) k5 ?_
    · rw [b1]
      simp only
      rw [b2]
      simp only
      rw [hde]
      cases hb : abF (rnF bDi bDi0 r t 0).1 (rdF r t (rnF bDi bDi0 r t 0).2).1 with
      | true => rfl
      | false => exact absurd ⟨k5, hb⟩ hab
    · rcases h0 with h0 | ⟨h0, h1⟩
      · obtain ⟨c, cs, hcs⟩ := hQ h0
        rw [hcs] at hl hdg
        left
        have := pk_at (pre := []) (t := x) hl
        rw [show pk x 0 = (c.toNat : Int) from this]
        exact (hdg c List.mem_cons_self).1
      · exfalso
        obtain ⟨p1, p2⟩ := pt_ch (r := r) h0
        have hqe : rnF bDi bDi0 r t 0 = ([], 0) := by unfold rnF; rw [p2, rn_no (by rw [p1]; rfl)]
        rw [hqe] at hde
        have hre : rdF r t 0 = ([], 0) := by unfold rdF; rw [p2, p1, if_neg (by decide)]
        rw [hre] at hde
        exact hd hde
  · rw [hxe] at hl
    obtain ⟨b1, b2, b3⟩ := nb_read q x _ p e hdg hp he hl
    refine hfin _ b3 (fun k => ?_) hk ?_
    · exfalso
      split at k <;> omega
    · rcases h0 with h0 | ⟨h0, h1⟩
      · obtain ⟨c, cs, hcs⟩ := hQ h0
        rw [hcs] at hl hdg
        left
        have := pk_at (pre := []) (t := x) (rest := cs ++ p ++ e) (by rw [hl]; rfl)
        rw [show pk x 0 = (c.toNat : Int) from this]
        exact (hdg c List.mem_cons_self).1
      · obtain ⟨p1, p2⟩ := pt_ch (r := r) h0
        have hqe : rnF bDi bDi0 r t 0 = ([], 0) := by unfold rnF; rw [p2, rn_no (by rw [p1]; rfl)]
        rw [hqe] at hl hpn
        have hpne := hpn (by simp only; rw [p2]; exact ⟨h0, h1⟩)
        rcases hp with hp | ⟨d, hp, hd, hdd⟩
        · exact absurd hp hpne
        · obtain ⟨c, d', rfl⟩ : ∃ c d', d = c :: d' := by cases d with | nil => exact absurd rfl hd | cons c d' => exact ⟨c, d', rfl⟩
          rw [hp] at hl
          right
          have e1 := pk_at (pre := []) (t := x) (rest := c :: d' ++ e) (by rw [hl]; rfl)
          have e2 := pk_at (pre := [46]) (t := x) (rest := d' ++ e) (by rw [hl]; rfl)
          refine ⟨e1, ?_⟩
          rw [show pk x (0 + 1) = (c.toNat : Int) from e2]
          exact (hdd c List.mem_cons_self).1



theorem lo_up : ∀ b : UInt8, bCd (b.toNat : Int) = true → Lib.upperB (Lib.lowerB b) = b ∧ bLd ((Lib.lowerB b).toNat : Int) = true := by
  intro b
  have h : ∀ n : Fin 256, bCd (n.val : Int) = true → Lib.upperB (Lib.lowerB (UInt8.ofNat n.val)) = UInt8.ofNat n.val ∧ bLd ((Lib.lowerB (UInt8.ofNat n.val)).toNat : Int) = true := by decide +kernel
  intro hb
  have := h ⟨b.toNat, b.toNat_lt⟩ hb
  rwa [UInt8.ofNat_toNat] at this
theorem lo_sm : ∀ b : UInt8, bCa (b.toNat : Int) = true → bSm ((Lib.lowerB b).toNat : Int) = true := by
  intro b
  have h : ∀ n : Fin 256, bCa (n.val : Int) = true → bSm ((Lib.lowerB (UInt8.ofNat n.val)).toNat : Int) = true := by decide +kernel
  intro hb
  have := h ⟨b.toNat, b.toNat_lt⟩ hb
  rwa [UInt8.ofNat_toNat] at this
theorem upb_cd : ∀ b : UInt8, bLd (b.toNat : Int) = true → bCd ((Lib.upperB b).toNat : Int) = true := by
  intro b
  have h : ∀ n : Fin 256, bLd (n.val : Int) = true → bCd ((Lib.upperB (UInt8.ofNat n.val)).toNat : Int) = true := by decide +kernel
  intro hb
  have := h ⟨b.toNat, b.toNat_lt⟩ hb
  rwa [UInt8.ofNat_toNat] at this
theorem up_ca : ∀ b : UInt8, bLe (b.toNat : Int) = true → bCa ((Lib.upperB b).toNat : Int) = true := by
  intro b
  have h : ∀ n : Fin 256, bLe (n.val : Int) = true → bCa ((Lib.upperB (UInt8.ofNat n.val)).toNat : Int) = true := by decide +kernel
  intro hb
  have := h ⟨b.toNat, b.toNat_lt⟩ hb
  rwa [UInt8.ofNat_toNat] at this
/-- A bold word: a capital, and then capitals and digits. -/
def bwd (x : ByteArray) : Prop := ∃ c cs, x.data.toList = c :: cs ∧ bCa (c.toNat : Int) = true ∧ ∀ d ∈ c :: cs, bCd (d.toNat : Int) = true
/-- The bytes of a run. -/
theorem ru_bytes (f : Int → Bool) (hf : f 0 = false) (t : ByteArray) (i : Nat) : ∀ c ∈ List.take (ru f hf t i - i) (List.drop i t.data.toList), f (c.toNat : Int) = true := by
  intro c hc
  obtain ⟨j, hj⟩ := List.getElem?_of_mem hc
  rw [List.getElem?_take] at hj
  by_cases hjl : j < ru f hf t i - i
  · rw [if_pos hjl, List.getElem?_drop] at hj
    have := ru_all f hf t i (i + j) (by omega) (by omega)
    rw [pk_get, hj] at this
    exact this
  · rw [if_neg hjl] at hj; cases hj
theorem drop_at {t : ByteArray} {i : Nat} (h : i < t.size) : ∃ c, List.drop i t.data.toList = c :: List.drop (i + 1) t.data.toList ∧ pk t i = (c.toNat : Int) := by
  have hl : i < t.data.toList.length := by rw [ba_len]; exact h
  exact ⟨t.data.toList[i], List.drop_eq_getElem_cons hl, by rw [pk_get, List.getElem?_eq_getElem hl]; rfl⟩
theorem bd_word {r : Int} {t : ByteArray} {i : Nat} (h : (bdF r t i).1 ≠ ⟨#[]⟩) : bwd (bdF r t i).1 := by
  have upc : ∀ z, bLe (pk t (i + 1)) = true → z = ru bLd bLd0 t (i + 1) → bwd (upW t (i + 1) z) := by
    intro z hl hz
    have hgt : i + 1 < ru bLd bLd0 t (i + 1) := ru_gt bLd bLd0 t (i + 1) (by unfold bLd; rw [hl]; rfl)
    have hlt : i + 1 < t.size := lt_of_yes (f := bLe) rfl hl
    obtain ⟨c, hd, hp⟩ := drop_at hlt
    have hb := ru_bytes bLd bLd0 t (i + 1)
    rw [hz]
    obtain ⟨n, hn⟩ : ∃ n, ru bLd bLd0 t (i + 1) - (i + 1) = n + 1 := ⟨ru bLd bLd0 t (i + 1) - (i + 1) - 1, by omega⟩
    rw [hn, hd, List.take_succ_cons] at hb
    refine ⟨Lib.upperB c, (List.take n (List.drop (i + 1 + 1) t.data.toList)).map Lib.upperB, ?_, up_ca c (by rw [← hp]; exact hl), ?_⟩
    · unfold upW
      rw [hn, hd, List.take_succ_cons]
      rfl
    · intro d hd2
      have : d ∈ (c :: List.take n (List.drop (i + 1 + 1) t.data.toList)).map Lib.upperB := hd2
      obtain ⟨y, hy, rfl⟩ := List.mem_map.1 this
      exact upb_cd y (hb y hy)
  unfold bdF at h ⊢
  split
  · rename_i h0; rw [if_pos h0] at h
    split
    · rename_i h1
      have hgt : i < ru bCd bCd0 t i := ru_gt bCd bCd0 t i (by unfold bCd; rw [h1]; rfl)
      have hlt : i < t.size := lt_of_yes (f := bCa) rfl h1
      obtain ⟨c, hd, hp⟩ := drop_at hlt
      have hb := ru_bytes bCd bCd0 t i
      obtain ⟨n, hn⟩ : ∃ n, ru bCd bCd0 t i - i = n + 1 := ⟨ru bCd bCd0 t i - i - 1, by omega⟩
      rw [hn, hd, List.take_succ_cons] at hb
      refine ⟨c, List.take n (List.drop (i + 1) t.data.toList), ?_, by rw [← hp]; exact h1, hb⟩
      rw [Lib.extract_data, hn, hd, List.take_succ_cons]
    · rename_i h1; rw [if_neg h1] at h; exact absurd rfl h
  · rename_i h0; rw [if_neg h0] at h
    split
    · rename_i h2; rw [if_pos h2] at h
      split
      · rename_i h1; exact upc _ h1.2.1 rfl
      · rename_i h1; rw [if_neg h1] at h; exact absurd rfl h
    · rename_i h2; rw [if_neg h2] at h
      split
      · rename_i h1; exact upc _ h1.2 rfl
      · rename_i h1; rw [if_neg h1] at h; exact absurd rfl h
theorem up_map {l : List UInt8} (h : ∀ d ∈ l, bCd (d.toNat : Int) = true) : Lib.toUpperA (Lib.toLowerA l) = l := by
  unfold Lib.toUpperA Lib.toLowerA
  rw [List.map_map]
  have : l.map (Lib.upperB ∘ Lib.lowerB) = l.map id := List.map_congr_left fun d hd => (lo_up d (h d hd)).1
  rw [this, List.map_id]
/-- A bold word, written in a regime, is found. -/
theorem bd_read {q : Int} (hq : 0 ≤ q ∧ q ≤ 2) {x : ByteArray} (hx : bwd x) : bdF q (boF q x) 0 = (x, (boF q x).size) ∧ 0 < (boF q x).size ∧ bBl (pk (boF q x) 0) = false ∧ pk (boF q x) 0 ≠ 35 ∧ pk (boF q x) 0 ≠ 34 ∧ pk (boF q x) 0 ≠ 36 ∧ ¬ (bDi (pk (boF q x) 0) = true ∨ pk (boF q x) 0 = 46 ∧ bDi (pk (boF q x) (0 + 1)) = true) ∧ ¬ bSm (ch q (boF q x) 0) = true := by
  obtain ⟨c, cs, hl, hc, hall⟩ := hx
  have hcb : 65 ≤ (c.toNat : Int) ∧ (c.toNat : Int) ≤ 90 := of_decide_eq_true hc
  rcases (by omega : q = 0 ∨ q = 1 ∨ q = 2) with rfl | rfl | rfl
  · have hb : boF 0 x = x := by unfold boF; rw [if_neg (by decide), if_neg (by decide)]
    rw [hb]
    have hp : pk x 0 = (c.toNat : Int) := pk_at (pre := []) hl
    have hr : ru bCd bCd0 x 0 = 0 + (c :: cs).length := ru_list bCd bCd0 x (c :: cs) [] [] (by rw [hl]; simp) hall (Or.inl rfl)
    have hsz : x.size = (c :: cs).length := by rw [← ba_len, hl]
    rw [Nat.zero_add, ← hsz] at hr
    refine ⟨?_, by rw [hsz]; simp, ?_, ?_, ?_, ?_, ?_, ?_⟩
    · unfold bdF
      rw [if_pos rfl, hp, if_pos hc, hr]
      refine Prod.ext ?_ rfl
      refine ByteArray.ext (Array.toList_inj.1 ?_)
      rw [Lib.extract_data, List.drop_zero, Nat.sub_zero]
      exact List.take_of_length_le (by rw [ba_len]; exact Nat.le_refl _)
    · rw [hp]; exact decide_eq_false (by omega)
    · rw [hp]; omega
    · rw [hp]; omega
    · rw [hp]; omega
    · rw [hp]
      rintro (k | ⟨k, _⟩)
      · have := of_decide_eq_true k; omega
      · omega
    · intro k
      have h0 : ch 0 x 0 = 0 := by
        show chB 0 (pk x 0) = 0
        rw [hp]; unfold chB
        have h1 : bSd (c.toNat : Int) = false := by
          unfold bSd bSm bDi
          rw [Bool.or_eq_false_iff]
          exact ⟨decide_eq_false (by omega), decide_eq_false (by omega)⟩
        rw [h1]; simp
      rw [h0] at k; cases k
  · have hb : boF 1 x = ⟨#[46]⟩ ++ ⟨(Lib.toLowerA x.data.toList).toArray⟩ := by unfold boF; rw [if_pos rfl]
    obtain ⟨w, hw⟩ : ∃ w, boF 1 x = w := ⟨_, rfl⟩
    have hwl : w.data.toList = 46 :: Lib.lowerB c :: cs.map Lib.lowerB := by rw [← hw, hb, data_app, hl]; rfl
    rw [hw]
    have hp : pk w 0 = 46 := pk_at (pre := []) hwl
    have hp1 : pk w (0 + 1) = ((Lib.lowerB c).toNat : Int) := pk_at (pre := [46]) (t := w) (rest := cs.map Lib.lowerB) hwl
    have hsm := lo_sm c hc
    have hsz : w.size = (c :: cs).length + 1 := by rw [← ba_len, hwl]; simp
    have hr := ru_list bLd bLd0 w (Lib.lowerB c :: cs.map Lib.lowerB) [46] [] (by rw [hwl]; simp) (by
      intro d hd
      have : d ∈ (c :: cs).map Lib.lowerB := hd
      obtain ⟨y, hy, rfl⟩ := List.mem_map.1 this
      exact (lo_up y (hall y hy)).2) (Or.inl rfl)
    have hr' : ru bLd bLd0 w (0 + 1) = w.size := by
      have : ru bLd bLd0 w (0 + 1) = 1 + (Lib.lowerB c :: cs.map Lib.lowerB).length := hr
      rw [this, hsz]; simp; omega
    refine ⟨?_, by omega, by rw [hp]; rfl, by rw [hp]; decide, by rw [hp]; decide, by rw [hp]; decide, ?_, ?_⟩
    · unfold bdF
      rw [if_neg (by decide), if_neg (by decide), if_pos ⟨hp, by rw [hp1]; unfold bLe; rw [hsm]; rfl⟩, hr']
      refine Prod.ext ?_ rfl
      rw [mk_eq hl]
      unfold upW
      rw [hwl]
      show (⟨(Lib.toUpperA (List.take (w.size - 1) (Lib.toLowerA (c :: cs)))).toArray⟩ : ByteArray) = _
      rw [List.take_of_length_le (by rw [hsz]; unfold Lib.toLowerA; rw [List.length_map]; omega), up_map hall]
    · rw [hp, hp1]
      rintro (k | ⟨_, k⟩)
      · cases k
      · have h1 := of_decide_eq_true hsm
        have h2 := of_decide_eq_true k
        omega
    · intro k
      have h0 : ch 1 w 0 = 0 := by show chB 1 (pk w 0) = 0; rw [hp]; rfl
      rw [h0] at k; cases k
  · have hb : boF 2 x = ⟨#[39]⟩ ++ ⟨(Lib.toLowerA x.data.toList).toArray⟩ ++ ⟨#[39]⟩ := by unfold boF; rw [if_neg (by decide), if_pos rfl]
    obtain ⟨w, hw⟩ : ∃ w, boF 2 x = w := ⟨_, rfl⟩
    have hwl : w.data.toList = 39 :: (Lib.lowerB c :: cs.map Lib.lowerB) ++ [39] := by rw [← hw, hb, data_app, data_app, hl]; rfl
    rw [hw]
    have hp : pk w 0 = 39 := pk_at (pre := []) (rest := (Lib.lowerB c :: cs.map Lib.lowerB) ++ [39]) hwl
    have hp1 : pk w (0 + 1) = ((Lib.lowerB c).toNat : Int) := pk_at (pre := [39]) (t := w) (rest := cs.map Lib.lowerB ++ [39]) (by rw [hwl]; rfl)
    have hsm := lo_sm c hc
    have hsz : w.size = (c :: cs).length + 2 := by rw [← ba_len, hwl]; simp
    have hr := ru_list bLd bLd0 w (Lib.lowerB c :: cs.map Lib.lowerB) [39] [39] (by rw [hwl]; simp) (by
      intro d hd
      have : d ∈ (c :: cs).map Lib.lowerB := hd
      obtain ⟨y, hy, rfl⟩ := List.mem_map.1 this
      exact (lo_up y (hall y hy)).2) (Or.inr ⟨39, [], rfl, rfl⟩)
    have hr' : ru bLd bLd0 w (0 + 1) = (c :: cs).length + 1 := by
      have : ru bLd bLd0 w (0 + 1) = 1 + (Lib.lowerB c :: cs.map Lib.lowerB).length := hr
      rw [this]; simp; omega
    have hpe : pk w ((c :: cs).length + 1) = 39 := by
      have := pk_at (pre := 39 :: (Lib.lowerB c :: cs.map Lib.lowerB)) (t := w) (c := 39) (rest := []) hwl
      have h2 : (39 :: (Lib.lowerB c :: cs.map Lib.lowerB) : List UInt8).length = (c :: cs).length + 1 := by simp
      rw [h2] at this; exact this
    refine ⟨?_, by omega, by rw [hp]; rfl, by rw [hp]; decide, by rw [hp]; decide, by rw [hp]; decide, ?_, ?_⟩
    · unfold bdF
      rw [if_neg (by decide), if_pos rfl, hr', if_pos ⟨hp, by rw [hp1]; unfold bLe; rw [hsm]; rfl, hpe⟩]
      refine Prod.ext ?_ (by simp only [hsz])
      rw [mk_eq hl]
      unfold upW
      rw [hwl]
      show (⟨(Lib.toUpperA (List.take ((c :: cs).length + 1 - 1) (Lib.toLowerA (c :: cs) ++ [39]))).toArray⟩ : ByteArray) = _
      rw [List.take_left' (by unfold Lib.toLowerA; rw [List.length_map]; omega), up_map hall]
    · rw [hp]
      rintro (k | ⟨k, _⟩)
      · cases k
      · exact absurd k (by decide)
    · intro k
      have h0 : ch 2 w 0 = 0 := by show chB 2 (pk w 0) = 0; rw [hp]; rfl
      rw [h0] at k; cases k
theorem rb_bold {q : Int} (hq : 0 ≤ q ∧ q ≤ 2) {x : ByteArray} (hx : bwd x) (hz : x.size ≤ 40) (h1 : ¬ (x = ⟨#[67, 79]⟩ ∨ x = ⟨#[67, 79, 77, 77, 69, 78, 84]⟩)) (h2 : ¬ (x = ⟨#[80, 82]⟩ ∨ x = ⟨#[80, 82, 65, 71, 77, 65, 84]⟩)) : RB q 1 x := by
  obtain ⟨g1, g2, g3, g4, g5, g6, g7, g8⟩ := bd_read hq hx
  have hne : x ≠ ⟨#[]⟩ := by
    obtain ⟨c, cs, hl, _⟩ := hx
    intro k; rw [k] at hl; cases hl
  have hw : wrF 1 q x = boF q x := by unfold wrF; rw [if_pos rfl]
  unfold RB
  rw [hw]
  refine ⟨?_, g2, g3⟩
  unfold stR
  rw [if_neg g4, if_neg g5, if_neg g6, if_neg g7, if_neg g8, g1]
  simp only
  rw [if_neg hne]
  unfold wdR
  rw [if_neg h1, if_neg h2]
  unfold shR
  rw [if_neg (by omega)]
  simp only [List.nil_append]
  rfl
/-- A step's symbol is written so that it reads back, strings aside. -/
theorem rb_step {r q : Int} (hq : 0 ≤ q ∧ q ≤ 2) {t : ByteArray} {l : List Sy} {s : Sy} (hc : (stR r t 0 l).c = 0) (hl : (stR r t 0 l).l = l ++ [s]) (h6 : (quE t ((0 : Nat) : Int) (0 + 1)).2.1 = 0 → RB q 6 (quT t (0 + 1) (quE t ((0 : Nat) : Int) (0 + 1)).2.2)) : RB q s.1 s.2.1 := by
  have no : ∀ {u : List Sy}, u = u ++ [s] → False := fun {u} e => by
    have := congrArg List.length e
    simp at this
  have one : ∀ {u : Sy}, l ++ [u] = l ++ [s] → s = u := fun {u} e => ((List.cons.inj (List.append_cancel_left e)).1).symm
  have hsh : ∀ {a z k : Int} {x : ByteArray}, (shR r a z k x l).c = 0 → (shR r a z k x l).l = l ++ [s] → x.size ≤ 40 ∧ s = (k, x, a) := by
    intro a z k x hc hl
    unfold shR at hc hl
    split at hc
    · exact absurd hc (by simp)
    · rename_i h; rw [if_neg h] at hl; exact ⟨by omega, one hl⟩
  unfold stR at hc hl
  by_cases k1 : pk t 0 = 35
  · rw [if_pos k1] at hl; exact (no hl).elim
  rw [if_neg k1] at hc hl
  by_cases k2 : pk t 0 = 34
  · rw [if_pos k2] at hc hl
    unfold quR at hc hl
    split at hc
    · rename_i h; rw [if_pos h] at hl
      rw [one hl]
      exact h6 h
    · rename_i h; exact absurd hc h
  rw [if_neg k2] at hc hl
  by_cases k3 : pk t 0 = 36
  · rw [if_pos k3] at hc hl
    unfold fmR at hc hl
    split at hc
    · rename_i h; rw [if_pos h] at hl
      rw [one hl]
      exact rb_form k3 h
    · rename_i h; exact absurd hc h
  rw [if_neg k3] at hc hl
  by_cases k4 : bDi (pk t 0) = true ∨ pk t 0 = 46 ∧ bDi (pk t (0 + 1)) = true
  · rw [if_pos k4] at hc hl
    have hrb := rb_num (q := q) k4 hc
    unfold nuR at hc hl
    split at hc
    · exact absurd hc (by simp)
    rename_i h; rw [if_neg h] at hl
    split at hc
    · exact absurd hc (by simp)
    rename_i h; rw [if_neg h] at hl
    rw [one hl]
    exact hrb
  rw [if_neg k4] at hc hl
  by_cases k5 : bSm (ch r t 0) = true
  · rw [if_pos k5] at hc hl
    obtain ⟨hz, e⟩ := hsh hc hl
    rw [e]
    exact rb_tag k5 hz
  rw [if_neg k5] at hc hl
  by_cases k6 : (bdF r t 0).1 = ⟨#[]⟩
  · rw [if_pos k6] at hc hl
    unfold snR at hc hl
    cases hf : fdS (List.drop 0 t.data.toList) 0 with
    | some u =>
      rw [hf] at hl
      rw [one hl]
      unfold fdS at hf
      exact rb_sign hq (by have := List.mem_of_find?_eq_some hf; simpa using this)
    | none => rw [hf] at hc; simp only at hc; split at hc <;> exact absurd hc (by decide)
  · rw [if_neg k6] at hc hl
    have hrm : ∀ {x : ByteArray} {a : Int} {f : Nat} {b : Bool}, (rmR r t x a f b l).l = l ++ [s] → False := by
      intro x a f b e
      unfold rmR at e
      split at e <;> exact no e
    unfold wdR at hc hl
    by_cases q1 : (bdF r t 0).1 = ⟨#[67, 79]⟩ ∨ (bdF r t 0).1 = ⟨#[67, 79, 77, 77, 69, 78, 84]⟩
    · rw [if_pos q1] at hl; exact (hrm hl).elim
    rw [if_neg q1] at hc hl
    by_cases q2 : (bdF r t 0).1 = ⟨#[80, 82]⟩ ∨ (bdF r t 0).1 = ⟨#[80, 82, 65, 71, 77, 65, 84]⟩
    · rw [if_pos q2] at hl; exact (hrm hl).elim
    rw [if_neg q2] at hc hl
    obtain ⟨hz, e⟩ := hsh hc hl
    rw [e]
    exact rb_bold hq (bd_word k6) hz q1 q2
end Go.Proofs.YtbnldpcbdeeflaaGreatDoor
