/- Texts that end or begin alike have the same symbols there; what is put in; behind a pragmat; where faults lie. No conditions. -/
import Derived.Test.YtbnldpcbdeeflaaGreatDoorWh
namespace Go.Proofs.YtbnldpcbdeeflaaGreatDoor
open Go.ChangeShapes Go.WideShapes Go.ChangeAt Go.RowKit



theorem pk_get (t : ByteArray) (i : Nat) : pk t i = ((t.data.toList[i]?).map (fun c => (c.toNat : Int))).getD 0 := by
  unfold pk
  split
  · rename_i h
    have h2 : i < t.data.toList.length := by simpa using h
    rw [List.getElem?_eq_getElem h2]
    rfl
  · rename_i h
    have h2 : t.data.toList.length ≤ i := by simpa using h
    rw [List.getElem?_eq_none h2]
    rfl
/-- A text that ends as another one from b on, d further. -/
structure Sf (t t' : ByteArray) (b d : Nat) : Prop where
  hb : b ≤ t.size
  sz : t'.size = t.size + d
  dr : t'.data.toList.drop (b + d) = t.data.toList.drop b
theorem sf_drop {t t' : ByteArray} {b d : Nat} (h : Sf t t' b d) {i : Nat} (hi : b ≤ i) : t'.data.toList.drop (i + d) = t.data.toList.drop i := by
  have e1 : i + d = (b + d) + (i - b) := by omega
  have e2 : t.data.toList.drop i = (t.data.toList.drop b).drop (i - b) := by rw [List.drop_drop]; congr 1; omega
  rw [e1, e2, ← List.drop_drop, h.dr]
theorem sf_pk {t t' : ByteArray} {b d : Nat} (h : Sf t t' b d) {i : Nat} (hi : b ≤ i) : pk t' (i + d) = pk t i := by
  rw [pk_get, pk_get]
  have := congrArg (fun l : List UInt8 => l[0]?) ((sf_drop h) hi)
  simp only [List.getElem?_drop, Nat.add_zero] at this
  rw [this]
theorem sf_ch {t t' : ByteArray} {b d : Nat} (h : Sf t t' b d) (r : Int) {i : Nat} (hi : b ≤ i) : ch r t' (i + d) = ch r t i := by
  unfold ch; rw [(sf_pk h) hi]
theorem sf_take {t t' : ByteArray} {b d : Nat} (h : Sf t t' b d) {i : Nat} (j : Nat) (hi : b ≤ i) : List.take (j + d - (i + d)) (List.drop (i + d) t'.data.toList) = List.take (j - i) (List.drop i t.data.toList) := by
  rw [(sf_drop h) hi, Nat.add_sub_add_right]
theorem sf_ext {t t' : ByteArray} {b d : Nat} (h : Sf t t' b d) {i : Nat} (j : Nat) (hi : b ≤ i) : t'.extract (i + d) (j + d) = t.extract i j := by
  have : (t'.extract (i + d) (j + d)).data.toList = (t.extract i j).data.toList := by rw [Lib.extract_data, Lib.extract_data, (sf_take h) j hi]
  exact ByteArray.ext (Array.toList_inj.1 this)
theorem sf_ru {t t' : ByteArray} {b d : Nat} (h : Sf t t' b d) (f : Int → Bool) (hf : f 0 = false) (i : Nat) (hi : b ≤ i) : ru f hf t' (i + d) = ru f hf t i + d := by
  rcases Bool.eq_false_or_eq_true (f (pk t i)) with k | k
  · have hlt := lt_of_yes hf k
    rw [ru_yes k, ru_yes (by rw [(sf_pk h) hi]; exact k), show i + d + 1 = (i + 1) + d by omega]
    exact sf_ru h f hf (i + 1) (by omega)
  · rw [ru_no k, ru_no (by rw [(sf_pk h) hi]; exact k)]
termination_by t.size - i
theorem sf_sk {t t' : ByteArray} {b d : Nat} (h : Sf t t' b d) (i : Nat) (hi : b ≤ i) : sk t' (i + d) = sk t i + d := (sf_ru h) bBl bBl0 i hi
theorem sf_rn {t t' : ByteArray} {b d : Nat} (h : Sf t t' b d) (f : Int → Bool) (hf : f 0 = false) (r : Int) (i e : Nat) (hi : b ≤ i) : rn f hf r t' (i + d) (e + d) = ((rn f hf r t i e).1, (rn f hf r t i e).2 + d) := by
  rcases Bool.eq_false_or_eq_true (f (ch r t i)) with k | k
  · have hlt := ch_lt hf k
    have hs := sk_ge t (i + 1)
    have h1 : sk t' (i + d + 1) = sk t (i + 1) + d := by rw [show i + d + 1 = (i + 1) + d by omega]; exact (sf_sk h) (i + 1) (by omega)
    rw [rn_yes k, rn_yes (by rw [(sf_ch h) r hi]; exact k), h1, show i + d + 1 = (i + 1) + d by omega, sf_rn h f hf r (sk t (i + 1)) (i + 1) (by omega), (sf_ch h) r hi]
  · rw [rn_no k, rn_no (by rw [(sf_ch h) r hi]; exact k)]
termination_by t.size - i
decreasing_by omega
theorem sf_rnF {t t' : ByteArray} {b d : Nat} (h : Sf t t' b d) (f : Int → Bool) (hf : f 0 = false) (r : Int) (i : Nat) (hi : b ≤ i) : rnF f hf r t' (i + d) = ((rnF f hf r t i).1, (rnF f hf r t i).2 + d) := by
  unfold rnF
  have := sk_ge t i
  rw [(sf_sk h) i hi, (sf_rn h) f hf r _ _ (by omega)]
theorem sf_rdF {t t' : ByteArray} {b d : Nat} (h : Sf t t' b d) (r : Int) (i : Nat) (hi : b ≤ i) : rdF r t' (i + d) = ((rdF r t i).1, (rdF r t i).2 + d) := by
  have hs := sk_ge t i
  unfold rdF
  rw [(sf_sk h) i hi, (sf_ch h) r (by omega)]
  split
  · rw [show sk t i + d + 1 = (sk t i + 1) + d by omega, (sf_rnF h) bHx bHx0 r _ (by omega)]
  · rfl
theorem exS_mv (t t' : ByteArray) (a d : Nat) (pre : ByteArray) (q : List UInt8 × Nat) : exS t' (a + d) pre (q.1, q.2 + d) = ((exS t a pre q).1, (exS t a pre q).2 + d) := by
  unfold exS
  simp only
  split
  · rfl
  · rfl


theorem sf_exF {t t' : ByteArray} {b d : Nat} (h : Sf t t' b d) (r : Int) (i : Nat) (hi : b ≤ i) : exF r t' (i + d) = ((exF r t i).1, (exF r t i).2 + d) := by
  have hs := sk_ge t i
  have hs2 := sk_ge t (sk t i + 1)
  have e1 : sk t' (sk t i + d + 1) = sk t (sk t i + 1) + d := by rw [show sk t i + d + 1 = (sk t i + 1) + d by omega]; exact sf_sk h _ (by omega)
  unfold exF
  rw [sf_sk h i hi, sf_ch h r (by omega), e1, sf_pk h (by omega)]
  split
  · split
    · rw [show sk t (sk t i + 1) + d + 1 = (sk t (sk t i + 1) + 1) + d by omega, sf_ext h _ (by omega), sf_rnF h bDi bDi0 r _ (by omega)]
      exact exS_mv t t' i d _ _
    · rw [sf_rnF h bDi bDi0 r _ (by omega)]
      exact exS_mv t t' i d _ _
  · rfl
theorem sf_mnF {t t' : ByteArray} {b d : Nat} (h : Sf t t' b d) (r : Int) (q : List UInt8 × Nat) (hi : b ≤ q.2) : mnF r t' (q.1, q.2 + d) = ((mnF r t q).1, (mnF r t q).2.1, (mnF r t q).2.2 + d) := by
  have hs := sk_ge t q.2
  unfold mnF
  simp only
  rw [sf_sk h _ hi, show sk t q.2 + d + 1 = (sk t q.2 + 1) + d by omega, sf_pk h (by omega), sf_pk h (by omega), sf_rnF h bDi bDi0 r _ (by omega)]
  split
  · rfl
  · rfl
theorem sf_xnF {t t' : ByteArray} {b d : Nat} (h : Sf t t' b d) (r : Int) (m : Int × ByteArray × Nat) (hi : b ≤ m.2.2) : xnF r t' (m.1, m.2.1, m.2.2 + d) = ((xnF r t m).1, (xnF r t m).2.1, (xnF r t m).2.2 + d) := by
  unfold xnF
  simp only
  rw [sf_exF h r _ hi]
  simp only
  split
  · rfl
  · rfl
theorem sf_nbF {t t' : ByteArray} {b d : Nat} (h : Sf t t' b d) (r : Int) (i : Nat) (hi : b ≤ i) (hi2 : i ≤ t.size) : nbF r t' (i + d) = ((nbF r t i).1, (nbF r t i).2.1, (nbF r t i).2.2 + d) := by
  have h1 := rnF_ge bDi bDi0 r t i
  have h2 := rnF_end bDi bDi0 r t i hi2
  have h3 := (mnF_bd r t _ h2).1
  unfold nbF
  rw [sf_rnF h bDi bDi0 r i hi]
  simp only
  rw [sf_rdF h r _ (by omega)]
  simp only
  split
  · have e := sf_mnF h r (rnF bDi bDi0 r t i) (by omega)
    rw [e]
    exact sf_xnF h r (mnF r t (rnF bDi bDi0 r t i)) (by omega)
  · rfl
theorem sf_cmE {t t' : ByteArray} {b d : Nat} (h : Sf t t' b d) (a : Int) (i : Nat) (hi : b ≤ i) :
    (cmE t' (a + (d : Int)) (i + d)).2.2 = (cmE t a i).2.2 ∧ ((cmE t a i).2.2 = 0 → (cmE t' (a + (d : Int)) (i + d)).1 = (cmE t a i).1 + (d : Int)) ∧ ((cmE t a i).2.2 ≠ 0 → (cmE t' (a + (d : Int)) (i + d)).2.1 = (cmE t a i).2.1 + (d : Int)) := by
  rcases Nat.lt_or_ge i t.size with hlt | hge
  · have hlt' : i + d < t'.size := by rw [h.sz]; omega
    rcases Bool.eq_false_or_eq_true (bTx (pk t i)) with k | k
    · by_cases n : pk t i = 35
      · rw [cm_end hlt k n, cm_end hlt' (by rw [sf_pk h hi]; exact k) (by rw [sf_pk h hi]; exact n)]
        refine ⟨rfl, fun _ => ?_, fun e => absurd rfl e⟩
        simp only; omega
      · rw [cm_next hlt k n, cm_next hlt' (by rw [sf_pk h hi]; exact k) (by rw [sf_pk h hi]; exact n), show i + d + 1 = (i + 1) + d by omega]
        exact sf_cmE h a (i + 1) (by omega)
    · rw [cm_bad hlt k, cm_bad hlt' (by rw [sf_pk h hi]; exact k)]
      refine ⟨rfl, fun e => absurd e (by simp), fun _ => ?_⟩
      simp only; omega
  · rw [cm_out hge, cm_out (by rw [h.sz]; omega)]
    exact ⟨rfl, fun e => absurd e (by simp), fun _ => rfl⟩
termination_by t.size - i
theorem sf_litF {t t' : ByteArray} {b d : Nat} (h : Sf t t' b d) (i : Nat) (a : Int) (hi : b ≤ i) : (litF t' (i + d) (a + (d : Int))).2 = (litF t i a).2 ∧ ((litF t i a).2 ≠ 0 → (litF t' (i + d) (a + (d : Int))).1 = (litF t i a).1 + (d : Int)) := by
  have e : i + d < t'.size ↔ i < t.size := by rw [h.sz]; omega
  unfold litF
  rw [sf_pk h hi]
  by_cases h1 : i < t.size
  · rw [if_pos h1, if_pos (e.2 h1)]
    split
    · split
      · exact ⟨rfl, fun k => absurd rfl k⟩
      · exact ⟨rfl, fun _ => by simp only; omega⟩
    · exact ⟨rfl, fun _ => by simp only; omega⟩
  · rw [if_neg h1, if_neg (fun k => h1 (e.1 k))]
    exact ⟨rfl, fun _ => rfl⟩
theorem sf_quE {t t' : ByteArray} {b d : Nat} (h : Sf t t' b d) (a : Int) (i : Nat) (hi : b ≤ i) :
    (quE t' (a + (d : Int)) (i + d)).2.1 = (quE t a i).2.1 ∧ (quE t' (a + (d : Int)) (i + d)).2.2 = (quE t a i).2.2 + d ∧ ((quE t a i).2.1 ≠ 0 → (quE t' (a + (d : Int)) (i + d)).1 = (quE t a i).1 + (d : Int)) := by
  have hl := sf_litF h i a hi
  by_cases k : (litF t i a).2 = 0
  · have hlt := lit_lt k
    have k' : (litF t' (i + d) (a + (d : Int))).2 = 0 := hl.1.trans k
    have p0 := sf_pk h hi
    have p1 : pk t' (i + d + 1) = pk t (i + 1) := by rw [show i + d + 1 = (i + 1) + d by omega]; exact sf_pk h (by omega)
    by_cases h34 : pk t i = 34
    · by_cases n : pk t (i + 1) = 34
      · rw [qu_two k h34 n, qu_two k' (p0.trans h34) (p1.trans n), show i + d + 1 + 1 = (i + 1 + 1) + d by omega]
        exact sf_quE h a (i + 1 + 1) (by omega)
      · rw [qu_end k h34 n, qu_end k' (p0.trans h34) (by rw [p1]; exact n)]
        exact ⟨rfl, rfl, fun e => absurd rfl e⟩
    · rw [qu_one k h34, qu_one k' (by rw [p0]; exact h34), show i + d + 1 = (i + 1) + d by omega]
      exact sf_quE h a (i + 1) (by omega)
  · rw [qu_bad k, qu_bad (by rw [hl.1]; exact k)]
    exact ⟨hl.1, rfl, fun _ => hl.2 k⟩
termination_by t.size - i
theorem sf_fmE {t t' : ByteArray} {b d : Nat} (h : Sf t t' b d) (a : Int) (i : Nat) (wi : Bool) (hi : b ≤ i) :
    (fmE t' (a + (d : Int)) (i + d) wi).2.1 = (fmE t a i wi).2.1 ∧ (fmE t' (a + (d : Int)) (i + d) wi).2.2 = (fmE t a i wi).2.2 + d ∧ ((fmE t a i wi).2.1 ≠ 0 → (fmE t' (a + (d : Int)) (i + d) wi).1 = (fmE t a i wi).1 + (d : Int)) := by
  have hl := sf_litF h i a hi
  have p0 := sf_pk h hi
  by_cases h36 : wi = false ∧ pk t i = 36
  · obtain ⟨rfl, h36⟩ := h36
    rw [fm_end h36, fm_end (p0.trans h36)]
    exact ⟨rfl, rfl, fun e => absurd rfl e⟩
  · have h36' : ¬ (wi = false ∧ pk t' (i + d) = 36) := by rw [p0]; exact h36
    by_cases k : (litF t i a).2 = 0
    · have hlt := lit_lt k
      rw [fm_go h36 k, fm_go h36' (hl.1.trans k), p0, show i + d + 1 = (i + 1) + d by omega]
      exact sf_fmE h a (i + 1) _ (by omega)
    · rw [fm_bad h36 k, fm_bad h36' (by rw [hl.1]; exact k)]
      exact ⟨hl.1, rfl, fun _ => hl.2 k⟩
termination_by t.size - i
theorem sf_quT {t t' : ByteArray} {b d : Nat} (h : Sf t t' b d) (i j : Nat) (hi : b ≤ i) : quT t' (i + d) (j + d) = quT t i j := by
  unfold quT; rw [sf_take h j hi]
theorem sf_upW {t t' : ByteArray} {b d : Nat} (h : Sf t t' b d) (i j : Nat) (hi : b ≤ i) : upW t' (i + d) (j + d) = upW t i j := by
  unfold upW; rw [sf_take h j hi]
theorem sf_bdF {t t' : ByteArray} {b d : Nat} (h : Sf t t' b d) (r : Int) (i : Nat) (hi : b ≤ i) : bdF r t' (i + d) = ((bdF r t i).1, (bdF r t i).2 + d) := by
  have e1 : i + d + 1 = (i + 1) + d := by omega
  have e2 := ru_ge bLd bLd0 t (i + 1)
  unfold bdF
  rw [e1, sf_ru h bCd bCd0 i hi, sf_ru h bLd bLd0 (i + 1) (by omega), sf_pk h hi, sf_pk h (i := i + 1) (by omega), sf_pk h (i := ru bLd bLd0 t (i + 1)) (by omega), sf_ext h _ hi, sf_upW h _ _ (by omega)]
  split
  · split <;> rfl
  · split
    · split
      · simp only; congr 1; omega
      · rfl
    · split <;> rfl
theorem sf_jn {t t' : ByteArray} {b d : Nat} (h : Sf t t' b d) (r : Int) (i : Nat) (hi : b < i) : jn r t' (i + d) = jn r t i := by
  unfold jn
  rw [show i + d - 1 = (i - 1) + d by omega, sf_pk h (by omega)]
theorem sf_rmE {t t' : ByteArray} {b d : Nat} (h : Sf t t' b d) (r : Int) (x : ByteArray) (a : Int) (i : Nat) (hi : b < i) :
    (rmE r t' x (a + (d : Int)) (i + d)).2.1 = (rmE r t x a i).2.1 ∧ (rmE r t' x (a + (d : Int)) (i + d)).2.2.1 = (rmE r t x a i).2.2.1 + d ∧ (rmE r t' x (a + (d : Int)) (i + d)).2.2.2 = (rmE r t x a i).2.2.2 + d ∧ ((rmE r t x a i).2.1 ≠ 0 → (rmE r t' x (a + (d : Int)) (i + d)).1 = (rmE r t x a i).1 + (d : Int)) := by
  rcases Nat.lt_or_ge i t.size with hlt | hge
  · have hlt' : i + d < t'.size := by rw [h.sz]; omega
    have p0 := sf_pk h (i := i) (by omega)
    have hb := sf_bdF h r i (by omega)
    have hj := sf_jn h r i hi
    rcases Bool.eq_false_or_eq_true (bTx (pk t i)) with k | k
    · by_cases m : (bdF r t i).1 = x ∧ jn r t i = false
      · rw [rm_end hlt k m.1 m.2, rm_end hlt' (by rw [p0]; exact k) (by rw [hb]; exact m.1) (by rw [hj]; exact m.2), hb]
        exact ⟨rfl, rfl, rfl, fun e => absurd rfl e⟩
      · rw [rm_go hlt k m, rm_go hlt' (by rw [p0]; exact k) (by rw [hb, hj]; exact m), hb, show max (i + d + 1) ((bdF r t i).2 + d) = max (i + 1) (bdF r t i).2 + d by omega]
        exact sf_rmE h r x a _ (by omega)
    · rw [rm_bad hlt k, rm_bad hlt' (by rw [p0]; exact k)]
      exact ⟨rfl, rfl, rfl, fun _ => by simp only; omega⟩
  · rw [rm_out hge, rm_out (by rw [h.sz]; omega)]
    exact ⟨rfl, rfl, rfl, fun _ => rfl⟩
termination_by t.size - i
decreasing_by omega


/-- Symbols but for At. -/
def er (l : List Sy) : List (Int × ByteArray) := l.map fun s => (s.1, s.2.1)
theorem er_app (l m : List Sy) : er (l ++ m) = er l ++ er m := List.map_append
/-- What a step leaves, d further. -/
structure ShR (d : Nat) (R R' : Rs) : Prop where
  r : R'.r = R.r
  c : R'.c = R.c
  a : R.c = 0 → R'.a = R.a + (d : Int)
  p : R.c ≠ 0 → R'.p = R.p + (d : Int)
  l : er R'.l = er R.l
theorem sf_shR (d : Nat) (r a z k : Int) (x : ByteArray) {l l' : List Sy} (hl : er l' = er l) : ShR d (shR r a z k x l) (shR r (a + (d : Int)) (z + (d : Int)) k x l') := by
  unfold shR
  split
  · exact ⟨rfl, rfl, fun e => absurd e (by simp), fun _ => rfl, hl⟩
  · exact ⟨rfl, rfl, fun _ => rfl, fun e => absurd rfl e, by simp only [er_app, hl]; rfl⟩
theorem sf_rmR {t t' : ByteArray} {b d : Nat} (h : Sf t t' b d) (r : Int) (x : ByteArray) (a : Int) (f : Nat) (g : Bool) {l l' : List Sy} (hl : er l' = er l) (hi : b < f) : ShR d (rmR r t x a f g l) (rmR r t' x (a + (d : Int)) (f + d) g l') := by
  obtain ⟨h1, h2, h3, h4⟩ := sf_rmE h r x a f hi
  unfold rmR
  rw [h1]
  by_cases hc : (rmE r t x a f).2.1 = 0
  · rw [if_pos hc, if_pos hc]
    refine ⟨?_, rfl, fun _ => ?_, fun e => absurd rfl e, hl⟩
    · simp only [h2, sf_ext h _ (Nat.le_of_lt hi)]
    · simp only [h3]; omega
  · rw [if_neg hc, if_neg hc]
    exact ⟨rfl, rfl, fun e => absurd e hc, fun _ => h4 hc, hl⟩
theorem sf_wdR {t t' : ByteArray} {b d : Nat} (h : Sf t t' b d) (r : Int) (x : ByteArray) (a : Int) (f : Nat) {l l' : List Sy} (hl : er l' = er l) (hi : b < f) : ShR d (wdR r t x a f l) (wdR r t' x (a + (d : Int)) (f + d) l') := by
  unfold wdR
  split
  · exact sf_rmR h r x a f _ hl hi
  split
  · exact sf_rmR h r x a f _ hl hi
  · exact sf_shR d r a f 1 x hl
theorem sf_snR {t t' : ByteArray} {b d : Nat} (h : Sf t t' b d) (r : Int) (a : Nat) {l l' : List Sy} (hl : er l' = er l) (hi : b ≤ a) : ShR d (snR r t a l) (snR r t' (a + d) l') := by
  unfold snR
  rw [sf_drop h hi, sf_pk h hi]
  split
  · refine ⟨rfl, rfl, fun _ => ?_, fun e => absurd rfl e, by simp only [er_app, hl]; rfl⟩
    simp only; omega
  · refine ⟨rfl, rfl, fun e => absurd e ?_, fun _ => ?_, hl⟩
    · simp only; split <;> decide
    · simp only; omega
theorem sf_nuR {t t' : ByteArray} {b d : Nat} (h : Sf t t' b d) (r : Int) (a : Nat) {l l' : List Sy} (hl : er l' = er l) (hi : b ≤ a) (ha : a ≤ t.size) : ShR d (nuR r t a l) (nuR r t' (a + d) l') := by
  have h1 := rnF_ge bDi bDi0 r t a
  unfold nuR
  rw [sf_nbF h r a hi ha, sf_rnF h bDi bDi0 r a hi]
  simp only
  rw [sf_rdF h r _ (by omega)]
  simp only
  split
  · exact ⟨rfl, rfl, fun e => absurd e (by simp), fun _ => by simp only; omega, hl⟩
  split
  · exact ⟨rfl, rfl, fun e => absurd e (by simp), fun _ => by simp only; omega, hl⟩
  · exact ⟨rfl, rfl, fun _ => by simp only; omega, fun e => absurd rfl e, by simp only [er_app, hl]; rfl⟩
theorem sf_quR {t t' : ByteArray} {b d : Nat} (h : Sf t t' b d) (r : Int) (a : Nat) {l l' : List Sy} (hl : er l' = er l) (hi : b ≤ a) : ShR d (quR r t a l) (quR r t' (a + d) l') := by
  have e1 : a + d + 1 = (a + 1) + d := by omega
  have e2 : ((a + d : Nat) : Int) = (a : Int) + (d : Int) := by omega
  obtain ⟨h1, h2, h3⟩ := sf_quE h (a : Int) (a + 1) (by omega)
  unfold quR
  rw [e1, e2, h1]
  by_cases hc : (quE t (a : Int) (a + 1)).2.1 = 0
  · rw [if_pos hc, if_pos hc]
    refine ⟨rfl, rfl, fun _ => ?_, fun e => absurd rfl e, ?_⟩
    · simp only [h2]; omega
    · simp only [er_app, hl, h2, sf_quT h _ _ (Nat.le_trans hi (Nat.le_succ a))]; rfl
  · rw [if_neg hc, if_neg hc]
    exact ⟨rfl, rfl, fun e => absurd e hc, fun _ => h3 hc, hl⟩
theorem sf_fmR {t t' : ByteArray} {b d : Nat} (h : Sf t t' b d) (r : Int) (a : Nat) {l l' : List Sy} (hl : er l' = er l) (hi : b ≤ a) : ShR d (fmR r t a l) (fmR r t' (a + d) l') := by
  have e1 : a + d + 1 = (a + 1) + d := by omega
  have e2 : ((a + d : Nat) : Int) = (a : Int) + (d : Int) := by omega
  obtain ⟨h1, h2, h3⟩ := sf_fmE h (a : Int) (a + 1) false (by omega)
  unfold fmR
  rw [e1, e2, h1]
  by_cases hc : (fmE t (a : Int) (a + 1) false).2.1 = 0
  · rw [if_pos hc, if_pos hc]
    refine ⟨rfl, rfl, fun _ => ?_, fun e => absurd rfl e, ?_⟩
    · simp only [h2]; omega
    · simp only [er_app, hl, h2, sf_ext h _ (Nat.le_trans hi (Nat.le_succ a))]; rfl
  · rw [if_neg hc, if_neg hc]
    exact ⟨rfl, rfl, fun e => absurd e hc, fun _ => h3 hc, hl⟩
theorem sf_stR {t t' : ByteArray} {b d : Nat} (h : Sf t t' b d) (r : Int) (a : Nat) {l l' : List Sy} (hl : er l' = er l) (hi : b ≤ a) (ha : a < t.size) : ShR d (stR r t a l) (stR r t' (a + d) l') := by
  have e1 : a + d + 1 = (a + 1) + d := by omega
  have e2 : ((a + d : Nat) : Int) = (a : Int) + (d : Int) := by omega
  have p1 := sf_pk h (i := a + 1) (by omega)
  unfold stR
  rw [e1, sf_pk h hi, p1, sf_ch h r hi]
  split
  · obtain ⟨h1, h2, h3⟩ := sf_cmE h (a : Int) (a + 1) (by omega)
    rw [e2]
    exact ⟨rfl, h1, h2, h3, hl⟩
  split
  · exact sf_quR h r a hl hi
  split
  · exact sf_fmR h r a hl hi
  split
  · exact sf_nuR h r a hl hi (Nat.le_of_lt ha)
  split
  · rw [sf_rnF h bSd bSd0 r a hi, e2]
    have e3 : (((rnF bSd bSd0 r t a).2 + d : Nat) : Int) = ((rnF bSd bSd0 r t a).2 : Int) + (d : Int) := by omega
    simp only [e3]
    exact sf_shR d r a _ 2 _ hl
  rw [sf_bdF h r a hi]
  simp only
  split
  · exact sf_snR h r a hl hi
  · rename_i hx
    rw [e2]
    exact sf_wdR h r _ a _ hl (Nat.lt_of_le_of_lt hi (bd_up hx))
/-- The symbols from a place on, d further. -/
theorem sf_syL {t t' : ByteArray} {b d : Nat} (h : Sf t t' b d) : ∀ (n a : Nat) (r : Int) (l l' : List Sy), t.size - a ≤ n → er l' = er l → b ≤ a →
    (syL r t' (a + d) l').2.1 = (syL r t a l).2.1 ∧ ((syL r t a l).2.1 = 0 → er (syL r t' (a + d) l').2.2 = er (syL r t a l).2.2) ∧ ((syL r t a l).2.1 ≠ 0 → (syL r t' (a + d) l').1 = (syL r t a l).1 + (d : Int)) := by
  intro n
  induction n with
  | zero =>
    intro a r l l' hn hl hi
    rw [sy_end (t := t) (by omega), sy_end (t := t') (by rw [h.sz]; omega)]
    exact ⟨rfl, fun _ => hl, fun e => absurd rfl e⟩
  | succ n ih =>
    intro a r l l' hn hl hi
    rcases Nat.lt_or_ge a t.size with ha | ha
    · have ha' : a + d < t'.size := by rw [h.sz]; omega
      have hs := sf_stR h r a hl hi ha
      by_cases hc : (stR r t a l).c = 0
      · obtain ⟨m, h1, h2, h3, h4⟩ := st_up ha hc
        have h1' : (stR r t' (a + d) l').a = ((m + d : Nat) : Int) := by rw [hs.a hc, h1]; omega
        rw [sy_go ha hc h1, sy_go ha' (hs.c.trans hc) h1', hs.r, sf_sk h m (by omega)]
        have hk := sk_ge t m
        exact ih (sk t m) (stR r t a l).r _ _ (by omega) hs.l (by omega)
      · rw [sy_bad ha hc, sy_bad ha' (by rw [hs.c]; exact hc)]
        exact ⟨hs.c, fun e => absurd e hc, fun _ => hs.p hc⟩
    · rw [sy_end (t := t) ha, sy_end (t := t') (by rw [h.sz]; omega)]
      exact ⟨rfl, fun _ => hl, fun e => absurd rfl e⟩



/-- A byte with which nothing goes on. -/
def stp (c : Int) : Prop := c = 0 ∨ c = 9 ∨ c = 10 ∨ c = 32 ∨ c = 35
/-- A text that begins as another one up to b, where something ends. -/
structure Pf (t t' : ByteArray) (b : Nat) : Prop where
  h1 : b ≤ t.size
  h2 : b ≤ t'.size
  tk : t'.data.toList.take b = t.data.toList.take b
  st : stp (pk t' b)
  nb : bBl (pk t b) = false
theorem pf_pk {t t' : ByteArray} {b : Nat} (h : Pf t t' b) {i : Nat} (hi : i < b) : pk t' i = pk t i := by
  rw [pk_get, pk_get]
  have := congrArg (fun l : List UInt8 => l[i]?) h.tk
  simp only [List.getElem?_take, if_pos hi] at this
  rw [this]
theorem pf_ch {t t' : ByteArray} {b : Nat} (h : Pf t t' b) (r : Int) {i : Nat} (hi : i < b) : ch r t' i = ch r t i := by
  unfold ch; rw [pf_pk h hi]
theorem pf_take {t t' : ByteArray} {b : Nat} (h : Pf t t' b) (i : Nat) {j : Nat} (hj : j ≤ b) : List.take (j - i) (List.drop i t'.data.toList) = List.take (j - i) (List.drop i t.data.toList) := by
  have e : ∀ l : List UInt8, List.take (j - i) (List.drop i l) = List.drop i (List.take j (List.take b l)) := by
    intro l
    rw [List.take_take, Nat.min_eq_left hj, List.drop_take]
  rw [e, e, h.tk]
theorem pf_ext {t t' : ByteArray} {b : Nat} (h : Pf t t' b) (i : Nat) {j : Nat} (hj : j ≤ b) : t'.extract i j = t.extract i j := by
  have : (t'.extract i j).data.toList = (t.extract i j).data.toList := by rw [Lib.extract_data, Lib.extract_data, pf_take h i hj]
  exact ByteArray.ext (Array.toList_inj.1 this)
theorem pf_ru {t t' : ByteArray} {b : Nat} (h : Pf t t' b) (f : Int → Bool) (hf : f 0 = false) (hs : f (pk t' b) = false) (i : Nat) (hi : i ≤ b) : ru f hf t' i = min (ru f hf t i) b := by
  have hg := ru_ge f hf t i
  rcases Nat.lt_or_ge i b with hlt | hge
  · rcases Bool.eq_false_or_eq_true (f (pk t i)) with k | k
    · rw [ru_yes k, ru_yes (by rw [pf_pk h hlt]; exact k)]
      exact pf_ru h f hf hs (i + 1) hlt
    · rw [ru_no k, ru_no (by rw [pf_pk h hlt]; exact k)]
      omega
  · have : i = b := by omega
    subst this
    rw [ru_no hs]
    omega
termination_by b - i
theorem sk_b {t t' : ByteArray} {b : Nat} (h : Pf t t' b) : sk t b = b := ru_no h.nb
theorem pf_sk {t t' : ByteArray} {b : Nat} (h : Pf t t' b) (i : Nat) (hi : i ≤ b) : (sk t i < b ∧ sk t' i = sk t i) ∨ (sk t i = b ∧ sk t' i = sk t' b) := by
  rcases Nat.lt_or_ge i b with hlt | hge
  · rcases Bool.eq_false_or_eq_true (bBl (pk t i)) with k | k
    · have e1 : sk t i = sk t (i + 1) := ru_yes k
      have e2 : sk t' i = sk t' (i + 1) := ru_yes (by rw [pf_pk h hlt]; exact k)
      rw [e1, e2]
      exact pf_sk h (i + 1) hlt
    · have e1 : sk t i = i := ru_no k
      have e2 : sk t' i = i := ru_no (by rw [pf_pk h hlt]; exact k)
      rw [e1, e2]
      exact Or.inl ⟨hlt, rfl⟩
  · have : i = b := by omega
    subst this
    exact Or.inr ⟨sk_b h, rfl⟩
termination_by b - i
/-- What is looked at behind b. -/
def Lk (r : Int) (t t' : ByteArray) (b : Nat) (s : Prop) : Prop :=
  (ch r t' (sk t' b) = 0 ∧ ¬ (pk t' (sk t' b) = 46 ∧ bDi (pk t' (sk t' b + 1)) = true) ∧ (pk t' (sk t' b) = 43 ∨ pk t' (sk t' b) = 45 → s)) ∨
  (∃ d, Sf t t' b d ∧ sk t' b = b + d)
theorem Lk.mono {r : Int} {t t' : ByteArray} {b : Nat} {s s' : Prop} (h : Lk r t t' b s) (k : s → s') : Lk r t t' b s' := by
  rcases h with ⟨h1, h2, h3⟩ | h
  · exact Or.inl ⟨h1, h2, fun e => k (h3 e)⟩
  · exact Or.inr h
theorem lk_no {r : Int} {t t' : ByteArray} {b : Nat} {s : Prop} (h : Lk r t t' b s) (f : Int → Bool) (hf : f 0 = false) (k : f (ch r t b) = false) : f (ch r t' (sk t' b)) = false := by
  rcases h with ⟨h1, _, _⟩ | ⟨d, hd, he⟩
  · rw [h1]; exact hf
  · rw [he, sf_ch hd r (Nat.le_refl b)]; exact k
theorem rn_gt {f : Int → Bool} {hf : f 0 = false} {r : Int} {t : ByteArray} {i e : Nat} (h : f (ch r t i) = true) : i < (rn f hf r t i e).2 := by
  rw [rn_yes h]
  exact rn_ge f hf r t _ (i + 1) (sk_ge t (i + 1))
theorem rn_nil {f : Int → Bool} {hf : f 0 = false} {r : Int} {t : ByteArray} {i e : Nat} (h : (rn f hf r t i e).1 = []) : (rn f hf r t i e) = ([], e) := by
  rcases Bool.eq_false_or_eq_true (f (ch r t i)) with k | k
  · rw [rn_yes k] at h; cases h
  · exact rn_no k
theorem rnF_nil {f : Int → Bool} {hf : f 0 = false} {r : Int} {t : ByteArray} {i : Nat} (h : (rnF f hf r t i).1 = []) : (rnF f hf r t i) = ([], i) := rn_nil h
theorem rn_some {f : Int → Bool} {hf : f 0 = false} {r : Int} {t : ByteArray} {i e : Nat} (h : (rn f hf r t i e).1 ≠ []) : i < (rn f hf r t i e).2 := by
  rcases Bool.eq_false_or_eq_true (f (ch r t i)) with k | k
  · exact rn_gt k
  · rw [rn_no k] at h; exact absurd rfl h
theorem rnF_some {f : Int → Bool} {hf : f 0 = false} {r : Int} {t : ByteArray} {i : Nat} (h : (rnF f hf r t i).1 ≠ []) : i < (rnF f hf r t i).2 := by
  have := rn_some (t := t) (e := i) h
  have := sk_ge t i
  unfold rnF at *
  omega
theorem pf_rn {t t' : ByteArray} {b : Nat} (h : Pf t t' b) {r : Int} {s : Prop} (hL : Lk r t t' b s) (f : Int → Bool) (hf : f 0 = false) (i e : Nat) (hi : i < b) (he : (rn f hf r t i e).2 ≤ b) : rn f hf r t' i e = rn f hf r t i e := by
  rcases Bool.eq_false_or_eq_true (f (ch r t i)) with k | k
  · have hk := sk_ge t (i + 1)
    rw [rn_yes k] at he ⊢
    rw [rn_yes (by rw [pf_ch h r hi]; exact k), pf_ch h r hi]
    simp only at he
    have e1 : rn f hf r t' (sk t' (i + 1)) (i + 1) = rn f hf r t (sk t (i + 1)) (i + 1) := by
      rcases pf_sk h (i + 1) hi with ⟨h1, h2⟩ | ⟨h1, h2⟩
      · rw [h2]
        exact pf_rn h hL f hf (sk t (i + 1)) (i + 1) h1 he
      · rw [h1] at he ⊢
        have k2 : f (ch r t b) = false := by
          rcases Bool.eq_false_or_eq_true (f (ch r t b)) with k2 | k2
          · have := rn_gt (hf := hf) (e := i + 1) k2; omega
          · exact k2
        rw [h2, rn_no k2, rn_no (lk_no hL f hf k2)]
    rw [e1]
  · rw [rn_no k, rn_no (by rw [pf_ch h r hi]; exact k)]
termination_by b - i
decreasing_by omega
theorem pf_rnF {t t' : ByteArray} {b : Nat} (h : Pf t t' b) {r : Int} {s : Prop} (hL : Lk r t t' b s) (f : Int → Bool) (hf : f 0 = false) (i : Nat) (hi : i ≤ b) (he : (rnF f hf r t i).2 ≤ b) : rnF f hf r t' i = rnF f hf r t i := by
  unfold rnF at he ⊢
  rcases pf_sk h i hi with ⟨h1, h2⟩ | ⟨h1, h2⟩
  · rw [h2]
    exact pf_rn h hL f hf _ _ h1 he
  · rw [h1] at he ⊢
    have k2 : f (ch r t b) = false := by
      rcases Bool.eq_false_or_eq_true (f (ch r t b)) with k2 | k2
      · have := rn_gt (hf := hf) (e := i) k2; omega
      · exact k2
    rw [h2, rn_no k2, rn_no (lk_no hL f hf k2)]
/-- The digits from a place on, where they end before b or are none. -/
theorem pf_rnN {t t' : ByteArray} {b : Nat} (h : Pf t t' b) {r : Int} {s : Prop} (hL : Lk r t t' b s) (f : Int → Bool) (hf : f 0 = false) (i : Nat) (hi : i ≤ b) (he : (rnF f hf r t i).1 ≠ [] → (rnF f hf r t i).2 ≤ b) : rnF f hf r t' i = rnF f hf r t i := by
  refine pf_rnF h hL f hf i hi ?_
  by_cases hn : (rnF f hf r t i).1 = []
  · rw [rnF_nil hn]; exact hi
  · exact he hn
theorem rdF_cg {r : Int} {t : ByteArray} {i j : Nat} (h : sk t i = sk t j) : (rdF r t i).1 = (rdF r t j).1 := by
  unfold rdF
  rw [h]
  split <;> rfl
theorem exF_cg {r : Int} {t : ByteArray} {i j : Nat} (h : sk t i = sk t j) : (exF r t i).1 = (exF r t j).1 := by
  unfold exF
  rw [h]
  have e : ∀ p q, (exS t i p q).1 = (exS t j p q).1 := by intro p q; unfold exS; split <;> rfl
  split
  · split
    · exact e _ _
    · exact e _ _
  · rfl
theorem push_ne (p : ByteArray) (c : UInt8) (l : List UInt8) : (ByteArray.mk #[c]) ++ p ++ ⟨l.toArray⟩ ≠ ⟨#[]⟩ := by
  intro h
  have := congrArg (fun x : ByteArray => x.size) h
  simp only [ByteArray.size_append] at this
  have e : (ByteArray.mk #[c]).size = 1 := rfl
  have e0 : (ByteArray.mk #[]).size = 0 := rfl
  omega
theorem push_ne1 (c : UInt8) (l : List UInt8) : (ByteArray.mk #[c]) ++ ⟨l.toArray⟩ ≠ ⟨#[]⟩ := by
  intro h
  have := congrArg (fun x : ByteArray => x.size) h
  simp only [ByteArray.size_append] at this
  have e : (ByteArray.mk #[c]).size = 1 := rfl
  have e0 : (ByteArray.mk #[]).size = 0 := rfl
  omega
theorem exS_nil {t : ByteArray} {a : Nat} {pre : ByteArray} {q : List UInt8 × Nat} (hp : ∀ l : List UInt8, pre ++ ⟨l.toArray⟩ ≠ ⟨#[]⟩) : (exS t a pre q).1 = ⟨#[]⟩ ↔ q.1 = [] := by
  unfold exS
  split
  · rename_i h; exact ⟨fun _ => h, fun _ => rfl⟩
  · rename_i h; exact ⟨fun e => absurd e (hp _), fun e => absurd e h⟩
theorem ex_nil {r : Int} {t : ByteArray} {a : Nat} (h : (exF r t a).1 = ⟨#[]⟩) : exF r t a = (⟨#[]⟩, a) := by
  unfold exF at h ⊢
  split
  · rename_i h0
    rw [if_pos h0] at h
    split
    · rename_i h1
      rw [if_pos h1] at h
      have := (exS_nil (fun l => push_ne _ _ l)).1 h
      unfold exS; rw [if_pos this]
    · rename_i h1
      rw [if_neg h1] at h
      have := (exS_nil (fun l => push_ne1 _ l)).1 h
      unfold exS; rw [if_pos this]
  · rfl
theorem sk_twice (t : ByteArray) (i : Nat) : sk t (sk t i) = sk t i := by
  rcases Bool.eq_false_or_eq_true (bBl (pk t i)) with k | k
  · have hlt := lt_of_yes bBl0 k
    have e : sk t i = sk t (i + 1) := ru_yes k
    rw [e]; exact sk_twice t (i + 1)
  · have e : sk t i = i := ru_no k
    rw [e, e]
termination_by t.size - i
theorem rd_pos {r : Int} {t : ByteArray} {a : Nat} (h : (rdF r t a).1 ≠ []) : sk t a < (rdF r t a).2 := by
  unfold rdF at h ⊢
  split
  · rename_i h0
    rw [if_pos h0] at h
    have := rnF_some h
    omega
  · rename_i h0
    rw [if_neg h0] at h
    exact absurd rfl h
theorem ex_pos {r : Int} {t : ByteArray} {a : Nat} (h : (exF r t a).1 ≠ ⟨#[]⟩) : sk t (sk t a + 1) < (exF r t a).2 := by
  unfold exF at h ⊢
  split
  · rename_i h0
    rw [if_pos h0] at h
    split
    · rename_i h1
      rw [if_pos h1] at h
      have h2 : (rnF bDi bDi0 r t (sk t (sk t a + 1) + 1)).1 ≠ [] := fun e => h ((exS_nil (fun l => push_ne _ _ l)).2 e)
      have := rnF_some h2
      unfold exS; rw [if_neg h2]; simp only; omega
    · rename_i h1
      rw [if_neg h1] at h
      have h2 : (rnF bDi bDi0 r t (sk t (sk t a + 1))).1 ≠ [] := fun e => h ((exS_nil (fun l => push_ne1 _ l)).2 e)
      have := rnF_some h2
      unfold exS; rw [if_neg h2]; simp only; omega
  · rename_i h0
    rw [if_neg h0] at h
    exact absurd rfl h
theorem pf_rdF {t t' : ByteArray} {b : Nat} (h : Pf t t' b) {r : Int} {s : Prop} (hL : Lk r t t' b s) (a : Nat) (ha : a ≤ b) (he : (rdF r t a).1 ≠ [] → (rdF r t a).2 ≤ b) :
    (rdF r t' a).1 = (rdF r t a).1 ∧ ((rdF r t a).1 ≠ [] → rdF r t' a = rdF r t a) := by
  rcases pf_sk h a ha with ⟨h1, h2⟩ | ⟨h1, h2⟩
  · have e : rdF r t' a = rdF r t a := by
      unfold rdF at he ⊢
      rw [h2, pf_ch h r h1]
      split
      · rename_i h0
        rw [if_pos h0] at he
        exact pf_rnN h hL bHx bHx0 _ h1 he
      · rfl
    rw [e]; exact ⟨rfl, fun _ => rfl⟩
  · have hn : (rdF r t a).1 = [] := by
      by_cases hn : (rdF r t a).1 = []
      · exact hn
      · have := he hn
        have := rd_pos hn
        omega
    refine ⟨?_, fun k => absurd hn k⟩
    rw [hn]
    rcases hL with ⟨k1, _, _⟩ | ⟨d, hd, hq⟩
    · unfold rdF
      rw [h2, k1, if_neg (by decide)]
    · have e1 : sk t' a = sk t' (b + d) := by rw [h2, ← hq, sk_twice]
      rw [rdF_cg e1, sf_rdF hd r b (Nat.le_refl b)]
      show (rdF r t b).1 = []
      rw [rdF_cg (show sk t b = sk t a by rw [h1, sk_b h]), hn]
theorem pf_exF {t t' : ByteArray} {b : Nat} (h : Pf t t' b) {r : Int} (a : Nat) (hL : Lk r t t' b (a = b ∨ (exF r t a).1 ≠ ⟨#[]⟩)) (ha : a ≤ b) (he : (exF r t a).1 ≠ ⟨#[]⟩ → (exF r t a).2 ≤ b) :
    exF r t' a = exF r t a := by
  rcases pf_sk h a ha with ⟨h1, h2⟩ | ⟨h1, h2⟩
  · rcases pf_sk h (sk t a + 1) h1 with ⟨p1, p2⟩ | ⟨p1, p2⟩
    · unfold exF at he ⊢
      rw [h2, pf_ch h r h1, p2, pf_pk h p1]
      split
      · rename_i h0
        rw [if_pos h0] at he
        split
        · rename_i h3
          rw [if_pos h3] at he
          rw [pf_ext h _ p1, pf_rnN h hL bDi bDi0 _ p1 (fun hn => by
            have hx := he (fun e => hn ((exS_nil (fun l => push_ne _ _ l)).1 e))
            unfold exS at hx; rw [if_neg hn] at hx; exact hx)]
          rfl
        · rename_i h3
          rw [if_neg h3] at he
          rw [pf_rnN h hL bDi bDi0 _ (Nat.le_of_lt p1) (fun hn => by
            have hx := he (fun e => hn ((exS_nil (fun l => push_ne1 _ l)).1 e))
            unfold exS at hx; rw [if_neg hn] at hx; exact hx)]
          rfl
      · rfl
    · have hn : (exF r t a).1 = ⟨#[]⟩ := by
        by_cases hn : (exF r t a).1 = ⟨#[]⟩
        · exact hn
        · have := he hn
          have := ex_pos hn
          omega
      refine (ex_nil ?_).trans (ex_nil hn).symm
      have hg := sk_ge t a
      unfold exF at hn ⊢
      rw [h2, pf_ch h r h1, p2]
      rw [p1] at hn
      split
      · rename_i h0
        rw [if_pos h0] at hn
        rcases hL with ⟨k1, k2, k3⟩ | ⟨d, hd, hq⟩
        · rw [if_neg (fun e => by
            rcases k3 e with k | k
            · omega
            · exact k (by unfold exF; rw [if_pos h0, p1]; exact hn))]
          refine (exS_nil (fun l => push_ne1 _ l)).2 ?_
          unfold rnF
          rw [sk_twice, rn_no (by rw [k1]; rfl)]
        · rw [hq, sf_pk hd (Nat.le_refl b)]
          split
          · rename_i h3
            rw [if_pos h3] at hn
            refine (exS_nil (fun l => push_ne _ _ l)).2 ?_
            rw [show b + d + 1 = (b + 1) + d by omega, sf_rnF hd bDi bDi0 r _ (by omega)]
            show (rnF bDi bDi0 r t (b + 1)).1 = []
            exact (exS_nil (fun l => push_ne _ _ l)).1 hn
          · rename_i h3
            rw [if_neg h3] at hn
            refine (exS_nil (fun l => push_ne1 _ l)).2 ?_
            rw [sf_rnF hd bDi bDi0 r _ (Nat.le_refl b)]
            show (rnF bDi bDi0 r t b).1 = []
            exact (exS_nil (fun l => push_ne1 _ l)).1 hn
      · rfl
  · have hn : (exF r t a).1 = ⟨#[]⟩ := by
      by_cases hn : (exF r t a).1 = ⟨#[]⟩
      · exact hn
      · have := he hn
        have := ex_pos hn
        have := sk_ge t (sk t a + 1)
        omega
    refine (ex_nil ?_).trans (ex_nil hn).symm
    rcases hL with ⟨k1, _, _⟩ | ⟨d, hd, hq⟩
    · unfold exF
      rw [h2, k1, if_neg (by decide)]
    · have e1 : sk t' a = sk t' (b + d) := by rw [h2, ← hq, sk_twice]
      rw [exF_cg e1, sf_exF hd r b (Nat.le_refl b)]
      show (exF r t b).1 = ⟨#[]⟩
      rw [exF_cg (show sk t b = sk t a by rw [h1, sk_b h]), hn]


theorem pf_not {t t' : ByteArray} {b : Nat} (h : Pf t t' b) (f : Int → Bool) (h0 : f 0 = false) (h9 : f 9 = false) (h10 : f 10 = false) (h32 : f 32 = false) (h35 : f 35 = false) : f (pk t' b) = false := by
  rcases h.st with e | e | e | e | e <;> rw [e] <;> assumption
theorem di_b {t : ByteArray} {r : Int} {b : Nat} (k : bDi (pk t b) = true) (a : Nat) (h : a = b) : b < (rnF bDi bDi0 r t a).2 := by
  subst h
  have := di_ch (r := r) k
  exact rnF_gt bDi bDi0 r t a this.1 this.2
theorem pf_mnF {t t' : ByteArray} {b : Nat} (h : Pf t t' b) {r : Int} {s : Prop} (hL : Lk r t t' b s) (q : List UInt8 × Nat) (hq : q.2 ≤ b) (he : (mnF r t q).2.2 ≤ b) : mnF r t' q = mnF r t q := by
  have hst := pf_not h bDi rfl rfl rfl rfl rfl
  have hg := sk_ge t q.2
  rcases pf_sk h q.2 hq with ⟨h1, h2⟩ | ⟨h1, h2⟩
  · have e1 : (pk t' (sk t q.2) = 46 ∧ bDi (pk t' (sk t q.2 + 1)) = true) ↔ (pk t (sk t q.2) = 46 ∧ bDi (pk t (sk t q.2 + 1)) = true) := by
      rw [pf_pk h h1]
      rcases Nat.lt_or_ge (sk t q.2 + 1) b with h3 | h3
      · rw [pf_pk h h3]
      · have h4 : sk t q.2 + 1 = b := by omega
        rw [h4, hst]
        constructor
        · intro k; exact absurd k.2 (by decide)
        · intro k
          unfold mnF at he
          rw [if_pos (by rw [h4]; exact k)] at he
          have := di_b (r := r) k.2 (sk t q.2 + 1) h4
          simp only at he; omega
    unfold mnF at he ⊢
    rw [h2]
    by_cases k : pk t (sk t q.2) = 46 ∧ bDi (pk t (sk t q.2 + 1)) = true
    · rw [if_pos k] at he ⊢
      rw [if_pos (e1.2 k), pf_rnF h hL bDi bDi0 _ h1 he]
    · rw [if_neg k, if_neg (fun k2 => k (e1.1 k2))]
  · have k : ¬ (pk t b = 46 ∧ bDi (pk t (b + 1)) = true) := by
      intro k
      unfold mnF at he
      rw [h1, if_pos k] at he
      have := rnF_ge bDi bDi0 r t (b + 1)
      simp only at he; omega
    have k' : ¬ (pk t' (sk t' b) = 46 ∧ bDi (pk t' (sk t' b + 1)) = true) := by
      rcases hL with ⟨_, k2, _⟩ | ⟨d, hd, he⟩
      · exact k2
      · rw [he, sf_pk hd (Nat.le_refl b), show b + d + 1 = (b + 1) + d by omega, sf_pk hd (by omega)]
        exact k
    unfold mnF
    rw [h2, h1, if_neg k, if_neg k']
theorem pf_xnF {t t' : ByteArray} {b : Nat} (h : Pf t t' b) {r : Int} (m : Int × ByteArray × Nat) (hL : Lk r t t' b ((xnF r t m).2.2 = b)) (hq : m.2.2 ≤ b) (he : (xnF r t m).2.2 ≤ b) : xnF r t' m = xnF r t m := by
  have e : exF r t' m.2.2 = exF r t m.2.2 := by
    refine pf_exF h m.2.2 (hL.mono ?_) hq ?_
    · intro k
      by_cases hn : (exF r t m.2.2).1 = ⟨#[]⟩
      · unfold xnF at k
        rw [if_pos hn] at k
        exact Or.inl k
      · exact Or.inr hn
    · intro hn
      unfold xnF at he
      rw [if_neg hn] at he
      exact he
  unfold xnF
  rw [e]
theorem pf_nbF {t t' : ByteArray} {b : Nat} (h : Pf t t' b) {r : Int} (a : Nat) (hL : Lk r t t' b ((nbF r t a).2.2 = b)) (ha : a ≤ b) (he : (nbF r t a).2.2 ≤ b) : nbF r t' a = nbF r t a ∧ rnF bDi bDi0 r t' a = rnF bDi bDi0 r t a ∧ (rdF r t' (rnF bDi bDi0 r t a).2).1 = (rdF r t (rnF bDi bDi0 r t a).2).1 := by
  have h1 := h.h1
  have hb := nb_bd r t a (by omega)
  have hq := rnF_end bDi bDi0 r t a (by omega)
  have e1 := pf_rnF h hL bDi bDi0 a ha (by omega)
  have e2 := pf_rdF h hL (rnF bDi bDi0 r t a).2 (by omega) (fun hn => by
    unfold nbF at he
    rw [if_neg hn] at he
    exact he)
  refine ⟨?_, e1, e2.1⟩
  unfold nbF at he hL ⊢
  rw [e1, e2.1]
  by_cases hn : (rdF r t (rnF bDi bDi0 r t a).2).1 = []
  · rw [if_pos hn] at he hL ⊢
    rw [if_pos hn]
    have m1 := mnF_bd r t (rnF bDi bDi0 r t a) hq
    have m2 := xnF_bd r t (mnF r t (rnF bDi bDi0 r t a)) m1.2
    rw [pf_mnF h hL _ (by omega) (by omega)]
    exact pf_xnF h _ hL (by omega) he
  · rw [if_neg hn, if_neg hn, e2.2 hn]
theorem pf_nuR {t t' : ByteArray} {b : Nat} (h : Pf t t' b) {r : Int} (a : Nat) (l : List Sy) (hc : (nuR r t a l).c = 0) (hL : Lk r t t' b ((nuR r t a l).a = (b : Int))) (ha : a ≤ b) (he : (nuR r t a l).a ≤ (b : Int)) : nuR r t' a l = nuR r t a l := by
  have hx : (nuR r t a l).a = ((nbF r t a).2.2 : Int) := by
    unfold nuR at hc ⊢
    split
    · rename_i k; rw [if_pos k] at hc; exact absurd hc (by simp)
    rename_i k
    rw [if_neg k] at hc
    split
    · rename_i k2; rw [if_pos k2] at hc; exact absurd hc (by simp)
    · rfl
  obtain ⟨e1, e2, e3⟩ := pf_nbF h a (hL.mono (fun k => by rw [hx] at k; omega)) ha (by rw [hx] at he; omega)
  unfold nuR
  rw [e1, e2, e3]
theorem pf_cmE {t t' : ByteArray} {b : Nat} (h : Pf t t' b) (a : Int) (i : Nat) (hc : (cmE t a i).2.2 = 0) (he : (cmE t a i).1 ≤ (b : Int)) : cmE t' a i = cmE t a i := by
  obtain ⟨k, k1, k2, k3⟩ := cm_up t a i hc
  have hib : i < b := by omega
  have h1 := h.h1
  have h2 := h.h2
  have hlt : i < t.size := by omega
  rcases Bool.eq_false_or_eq_true (bTx (pk t i)) with m | m
  · by_cases n : pk t i = 35
    · rw [cm_end hlt m n, cm_end (by omega) (by rw [pf_pk h hib]; exact m) (by rw [pf_pk h hib]; exact n)]
    · rw [cm_next hlt m n] at hc he ⊢
      rw [cm_next (by omega) (by rw [pf_pk h hib]; exact m) (by rw [pf_pk h hib]; exact n)]
      exact pf_cmE h a (i + 1) hc he
  · rw [cm_bad hlt m] at hc
    exact absurd hc (by simp)
termination_by t.size - i
theorem pf_litF {t t' : ByteArray} {b : Nat} (h : Pf t t' b) (i : Nat) (a : Int) (hi : i < b) : litF t' i a = litF t i a := by
  have h1 := h.h1
  have h2 := h.h2
  unfold litF
  rw [if_pos (show i < t'.size by omega), if_pos (show i < t.size by omega), pf_pk h hi]
theorem pf_quE {t t' : ByteArray} {b : Nat} (h : Pf t t' b) (a : Int) (i : Nat) (hc : (quE t a i).2.1 = 0) (he : (quE t a i).2.2 < b) : quE t' a i = quE t a i := by
  have hu := qu_up t a i hc
  have hib : i < b := by omega
  have hl := pf_litF h i a hib
  have p0 := pf_pk h hib
  by_cases k : (litF t i a).2 = 0
  · have hlt := lit_lt k
    by_cases h34 : pk t i = 34
    · have p1 : pk t' (i + 1) = 34 ↔ pk t (i + 1) = 34 := by
        rcases Nat.lt_or_ge (i + 1) b with h3 | h3
        · rw [pf_pk h h3]
        · have h4 : i + 1 = b := by omega
          constructor
          · intro e
            rw [h4] at e
            rcases h.st with q | q | q | q | q <;> rw [q] at e <;> exact absurd e (by decide)
          · intro e
            rw [qu_two k h34 e] at hc he
            have := qu_up t a (i + 1 + 1) hc
            omega
      by_cases n : pk t (i + 1) = 34
      · rw [qu_two k h34 n] at hc he ⊢
        rw [qu_two (by rw [hl]; exact k) (p0.trans h34) (p1.2 n)]
        exact pf_quE h a (i + 1 + 1) hc he
      · rw [qu_end k h34 n, qu_end (by rw [hl]; exact k) (p0.trans h34) (fun e => n (p1.1 e))]
    · rw [qu_one k h34] at hc he ⊢
      rw [qu_one (by rw [hl]; exact k) (by rw [p0]; exact h34)]
      exact pf_quE h a (i + 1) hc he
  · rw [qu_bad k] at hc
    exact absurd hc k
termination_by t.size - i
theorem pf_fmE {t t' : ByteArray} {b : Nat} (h : Pf t t' b) (a : Int) (i : Nat) (wi : Bool) (hc : (fmE t a i wi).2.1 = 0) (he : (fmE t a i wi).2.2 < b) : fmE t' a i wi = fmE t a i wi := by
  have hu := fm_up t a i wi hc
  have hib : i < b := by omega
  have hl := pf_litF h i a hib
  have p0 := pf_pk h hib
  by_cases h36 : wi = false ∧ pk t i = 36
  · obtain ⟨rfl, h36⟩ := h36
    rw [fm_end h36, fm_end (p0.trans h36)]
  · have h36' : ¬ (wi = false ∧ pk t' i = 36) := by rw [p0]; exact h36
    by_cases k : (litF t i a).2 = 0
    · have hlt := lit_lt k
      rw [fm_go h36 k] at hc he ⊢
      rw [fm_go h36' (by rw [hl]; exact k), p0]
      exact pf_fmE h a (i + 1) _ hc he
    · rw [fm_bad h36 k] at hc
      exact absurd hc k
termination_by t.size - i
theorem pf_bdF {t t' : ByteArray} {b : Nat} (h : Pf t t' b) (r : Int) (i : Nat) (hi : i < b) (he : (bdF r t i).2 ≤ b) : bdF r t' i = bdF r t i := by
  have p0 := pf_pk h hi
  have sL := pf_not h bLe rfl rfl rfl rfl rfl
  have eC := pf_ru h bCd bCd0 (pf_not h bCd rfl rfl rfl rfl rfl) i (by omega)
  have eL := pf_ru h bLd bLd0 (pf_not h bLd rfl rfl rfl rfl rfl) (i + 1) hi
  have gL := ru_ge bLd bLd0 t (i + 1)
  unfold bdF at he ⊢
  rw [p0, eC, eL]
  by_cases h0 : r = 0
  · rw [if_pos h0] at he ⊢
    rw [if_pos h0]
    by_cases k : bCa (pk t i) = true
    · rw [if_pos k] at he ⊢
      rw [if_pos k]
      simp only at he
      rw [Nat.min_eq_left he, pf_ext h i he]
    · rw [if_neg k, if_neg k]
  · rw [if_neg h0] at he ⊢
    rw [if_neg h0]
    have pL : bLe (pk t' (i + 1)) = true → bLe (pk t (i + 1)) = true := by
      intro k
      rcases Nat.lt_or_ge (i + 1) b with h3 | h3
      · rw [pf_pk h h3] at k; exact k
      · rw [show i + 1 = b by omega, sL] at k; exact absurd k (by decide)
    have pL2 : bLe (pk t (i + 1)) = true → ru bLd bLd0 t (i + 1) ≤ b → bLe (pk t' (i + 1)) = true := by
      intro k k2
      have : i + 1 < ru bLd bLd0 t (i + 1) := ru_gt bLd bLd0 t (i + 1) (by unfold bLd; rw [k]; rfl)
      rw [pf_pk h (by omega)]; exact k
    by_cases h2 : r = 2
    · rw [if_pos h2] at he ⊢
      rw [if_pos h2]
      by_cases k : pk t i = 39 ∧ bLe (pk t (i + 1)) = true ∧ pk t (ru bLd bLd0 t (i + 1)) = 39
      · rw [if_pos k] at he ⊢
        simp only at he
        rw [Nat.min_eq_left (by omega)]
        rw [if_pos ⟨k.1, pL2 k.2.1 (by omega), by rw [pf_pk h (by omega)]; exact k.2.2⟩]
        unfold upW
        rw [pf_take h (i + 1) (by omega)]
      · rw [if_neg k]
        refine if_neg ?_
        rintro ⟨k1, k2, k3⟩
        refine k ⟨k1, pL k2, ?_⟩
        rcases Nat.lt_or_ge (ru bLd bLd0 t (i + 1)) b with h3 | h3
        · rw [Nat.min_eq_left (by omega), pf_pk h h3] at k3; exact k3
        · rw [Nat.min_eq_right h3] at k3
          rcases h.st with q | q | q | q | q <;> rw [q] at k3 <;> exact absurd k3 (by decide)
    · rw [if_neg h2] at he ⊢
      rw [if_neg h2]
      by_cases k : pk t i = 46 ∧ bLe (pk t (i + 1)) = true
      · rw [if_pos k] at he ⊢
        simp only at he
        rw [Nat.min_eq_left he, if_pos ⟨k.1, pL2 k.2 he⟩]
        unfold upW
        rw [pf_take h (i + 1) he]
      · rw [if_neg k]
        exact if_neg (fun k2 => k ⟨k2.1, pL k2.2⟩)
theorem rm_up2 (r : Int) (t x : ByteArray) (a : Int) (hx : x ≠ ⟨#[]⟩) (i : Nat) : (rmE r t x a i).2.1 = 0 → (rmE r t x a i).2.2.1 < (rmE r t x a i).2.2.2 := by
  rw [rmE]
  split
  · split
    · split
      · rename_i m
        intro _
        exact bd_up (by rw [m.1]; exact hx)
      · intro h
        exact rm_up2 r t x a hx _ h
    · intro h; simp at h
  · intro h; simp at h
termination_by t.size - i
decreasing_by omega
theorem pf_rmE {t t' : ByteArray} {b : Nat} (h : Pf t t' b) (r : Int) (x : ByteArray) (a : Int) (hx : x ≠ ⟨#[]⟩) (i : Nat) (hc : (rmE r t x a i).2.1 = 0) (he : (rmE r t x a i).2.2.2 ≤ b) (hib : i < b) : rmE r t' x a i = rmE r t x a i := by
  have h1 := h.h1
  have h2 := h.h2
  have hlt : i < t.size := by omega
  have p0 := pf_pk h hib
  have hj : jn r t' i = jn r t i := by unfold jn; rw [pf_pk h (by omega)]
  rcases Bool.eq_false_or_eq_true (bTx (pk t i)) with k | k
  · by_cases m : (bdF r t i).1 = x ∧ jn r t i = false
    · rw [rm_end hlt k m.1 m.2] at he ⊢
      have hb := pf_bdF h r i hib he
      rw [rm_end (by omega) (by rw [p0]; exact k) (by rw [hb]; exact m.1) (by rw [hj]; exact m.2), hb]
    · rw [rm_go hlt k m] at hc he ⊢
      have hu := rm_up r t x a _ hc
      rcases Nat.lt_or_ge (max (i + 1) (bdF r t i).2) b with h3 | h3
      · have hb := pf_bdF h r i hib (by omega)
        rw [rm_go (by omega) (by rw [p0]; exact k) (by rw [hb, hj]; exact m), hb]
        exact pf_rmE h r x a hx _ hc he h3
      · have h5 : (rmE r t x a (max (i + 1) (bdF r t i).2)).2.2.1 < (rmE r t x a (max (i + 1) (bdF r t i).2)).2.2.2 := rm_up2 r t x a hx _ hc
        omega
  · rw [rm_bad hlt k] at hc
    exact absurd hc (by simp)
termination_by t.size - i
decreasing_by omega
theorem find_imp {p q : List UInt8 → Bool} {s : List UInt8} : ∀ (l : List (List UInt8)), (∀ x ∈ l, q x = true → p x = true) → l.find? p = some s → q s = true → l.find? q = some s
  | [], _, h, _ => by cases h
  | x :: l, hi, h, hs => by
    by_cases hp : p x = true
    · rw [List.find?_cons_of_pos hp] at h
      obtain rfl := Option.some.inj h
      exact List.find?_cons_of_pos hs
    · rw [List.find?_cons_of_neg hp] at h
      rw [List.find?_cons_of_neg (fun k => hp (hi x List.mem_cons_self k))]
      exact find_imp l (fun y hy => hi y (List.mem_cons_of_mem _ hy)) h hs
theorem sg_byte : ∀ s ∈ sgs, ∀ c ∈ s, ¬ (c.toNat = 0 ∨ c.toNat = 9 ∨ c.toNat = 10 ∨ c.toNat = 32 ∨ c.toNat = 35) := by decide
theorem pf_fdS {t t' : ByteArray} {b : Nat} (h : Pf t t' b) (a : Nat) (ha : a ≤ b) {s : List UInt8} (hs : fdS (t.data.toList.drop a) 0 = some s) (hn : a + s.length ≤ b) : fdS (t'.data.toList.drop a) 0 = some s := by
  have hd : List.take (b - a) (List.drop a t'.data.toList) = List.take (b - a) (List.drop a t.data.toList) := pf_take h a (Nat.le_refl b)
  have hmem : s ∈ sgs := by
    unfold fdS at hs
    have := List.mem_of_find?_eq_some hs
    simpa using this
  have hpre : s <+: List.drop a t.data.toList := by
    unfold fdS at hs
    have h0 := List.find?_some hs
    exact List.isPrefixOf_iff_prefix.mp h0
  unfold fdS at hs ⊢
  refine find_imp _ ?_ hs ?_
  · intro x hx hp
    rw [List.drop_zero] at hx
    have hp : x <+: List.drop a t'.data.toList := List.isPrefixOf_iff_prefix.mp hp
    have hxl : x.length ≤ b - a := by
      rcases Nat.lt_or_ge (b - a) x.length with k | k
      · exfalso
        have e1 : x[b - a]? = (List.drop a t'.data.toList)[b - a]? := by
          obtain ⟨y, hy⟩ := hp
          rw [← hy, List.getElem?_append_left k]
        rw [List.getElem?_eq_getElem k, List.getElem?_drop, show a + (b - a) = b by omega] at e1
        have e2 := pk_get t' b
        rw [← e1] at e2
        have e3 := sg_byte x hx (x[b - a]) (List.getElem_mem k)
        have e4 : pk t' b = ((x[b - a]).toNat : Int) := e2
        rcases h.st with q | q | q | q | q <;> rw [q] at e4 <;> exact e3 (by omega)
      · exact k
    refine List.isPrefixOf_iff_prefix.mpr ?_
    have h1 : x <+: List.take (b - a) (List.drop a t'.data.toList) := by
      rw [List.prefix_take_iff]; exact ⟨hp, hxl⟩
    rw [hd] at h1
    exact h1.trans (List.take_prefix _ _)
  · refine List.isPrefixOf_iff_prefix.mpr ?_
    have h1 : s <+: List.take (b - a) (List.drop a t.data.toList) := by
      rw [List.prefix_take_iff]; exact ⟨hpre, by omega⟩
    rw [← hd] at h1
    exact h1.trans (List.take_prefix _ _)
theorem nb_pt {r : Int} {t : ByteArray} {a : Nat} (h : pk t a = 46) (k : bDi (pk t (a + 1)) = true) : a + 1 < (nbF r t a).2.2 := by
  have hlt := lt_of_yes bDi0 k
  obtain ⟨p1, p2⟩ := pt_ch (r := r) h
  have hq : rnF bDi bDi0 r t a = ([], a) := by
    unfold rnF
    rw [p2, rn_no (by rw [p1]; rfl)]
  have hr : rdF r t a = ([], a) := by
    unfold rdF
    rw [p2, p1, if_neg (by decide)]
  unfold nbF
  rw [hq]
  simp only
  rw [hr, if_pos rfl]
  unfold mnF
  simp only
  rw [p2, if_pos ⟨h, k⟩]
  have h3 := di_b (r := r) k (a + 1) rfl
  have h4 := rnF_end bDi bDi0 r t (a + 1) (by omega)
  have h5 := (xnF_bd r t (4, ⟨([] : List UInt8).toArray⟩ ++ ⟨#[46]⟩ ++ ⟨(rnF bDi bDi0 r t (a + 1)).1.toArray⟩, (rnF bDi bDi0 r t (a + 1)).2) h4).1
  simp only at h5
  omega
theorem nu_a {r : Int} {t : ByteArray} {a : Nat} {l : List Sy} (hc : (nuR r t a l).c = 0) : (nuR r t a l).a = ((nbF r t a).2.2 : Int) := by
  unfold nuR at hc ⊢
  split
  · rename_i k; rw [if_pos k] at hc; exact absurd hc (by simp)
  rename_i k
  rw [if_neg k] at hc
  split
  · rename_i k2; rw [if_pos k2] at hc; exact absurd hc (by simp)
  · rfl
theorem upW_ne (t : ByteArray) (a z : Nat) (hz : a + 1 < z) (hz2 : z ≤ t.size) : upW t (a + 1) z ≠ ⟨#[]⟩ := by
  intro e
  have e1 := congrArg (fun x : ByteArray => x.data.toList.length) e
  unfold upW at e1
  have e2 : t.data.toList.length = t.size := by simp
  have e3 : (Lib.toUpperA (List.take (z - (a + 1)) (List.drop (a + 1) t.data.toList))).length = min (z - (a + 1)) (t.size - (a + 1)) := by
    rw [Lib.toUpperA, List.length_map, List.length_take, List.length_drop, e2]
  have e4 : (Lib.toUpperA (List.take (z - (a + 1)) (List.drop (a + 1) t.data.toList))).length = 0 := e1
  omega
/-- A step that ends before b is the same in a text that is alike up to there. -/
theorem pf_stR {t t' : ByteArray} {b : Nat} (h : Pf t t' b) {r : Int} (a : Nat) (l : List Sy) (ha : a < b) (hc : (stR r t a l).c = 0) (hL : (bDi (pk t a) = true ∨ (pk t a = 46 ∧ bDi (pk t (a + 1)) = true) ∨ bSm (ch r t a) = true) → Lk r t t' b ((stR r t a l).a = (b : Int))) (he : (stR r t a l).a ≤ (b : Int)) : stR r t' a l = stR r t a l := by
  have h1 := h.h1
  have p0 := pf_pk h ha
  have c0 := pf_ch h r ha
  have hlt : a < t.size := by omega
  unfold stR at hc hL he ⊢
  rw [p0, c0]
  by_cases k1 : pk t a = 35
  · rw [if_pos k1] at hc hL he ⊢
    rw [if_pos k1, pf_cmE h _ _ hc he]
  rw [if_neg k1] at hc hL he ⊢
  rw [if_neg k1]
  by_cases k2 : pk t a = 34
  · rw [if_pos k2] at hc hL he ⊢
    rw [if_pos k2]
    unfold quR at hc he ⊢
    by_cases m : (quE t (a : Int) (a + 1)).2.1 = 0
    · rw [if_pos m] at hc he
      simp only at he
      have e := pf_quE h (a : Int) (a + 1) m (by omega)
      rw [e]
      unfold quT
      rw [pf_take h (a + 1) (by omega)]
    · rw [if_neg m] at hc; exact absurd hc m
  rw [if_neg k2] at hc hL he ⊢
  rw [if_neg k2]
  by_cases k3 : pk t a = 36
  · rw [if_pos k3] at hc hL he ⊢
    rw [if_pos k3]
    unfold fmR at hc he ⊢
    by_cases m : (fmE t (a : Int) (a + 1) false).2.1 = 0
    · rw [if_pos m] at hc he
      simp only at he
      have e := pf_fmE h (a : Int) (a + 1) false m (by omega)
      rw [e, pf_ext h (a + 1) (by omega)]
    · rw [if_neg m] at hc; exact absurd hc m
  rw [if_neg k3] at hc hL he ⊢
  rw [if_neg k3]
  by_cases k4 : bDi (pk t a) = true ∨ pk t a = 46 ∧ bDi (pk t (a + 1)) = true
  · rw [if_pos k4] at hc hL he ⊢
    have k4' : bDi (pk t a) = true ∨ pk t a = 46 ∧ bDi (pk t' (a + 1)) = true := by
      rcases k4 with k | ⟨k, k5⟩
      · exact Or.inl k
      · refine Or.inr ⟨k, ?_⟩
        have := nb_pt (r := r) k k5
        rw [nu_a hc] at he
        rw [pf_pk h (by omega)]; exact k5
    rw [if_pos k4']
    exact pf_nuR h a l hc (hL (k4.imp id (fun k => Or.inl k))) (Nat.le_of_lt ha) he
  rw [if_neg k4] at hc hL he ⊢
  have k4' : ¬ (bDi (pk t a) = true ∨ pk t a = 46 ∧ bDi (pk t' (a + 1)) = true) := by
    rintro (k | ⟨k, k5⟩)
    · exact k4 (Or.inl k)
    · refine k4 (Or.inr ⟨k, ?_⟩)
      rcases Nat.lt_or_ge (a + 1) b with h3 | h3
      · rw [pf_pk h h3] at k5; exact k5
      · rw [show a + 1 = b by omega, pf_not h bDi rfl rfl rfl rfl rfl] at k5; exact absurd k5 (by decide)
  rw [if_neg k4']
  by_cases k5 : bSm (ch r t a) = true
  · rw [if_pos k5] at hc hL he ⊢
    rw [if_pos k5]
    rw [(sh_up hc).1] at he
    rw [pf_rnF h (hL (Or.inr (Or.inr k5))) bSd bSd0 a (Nat.le_of_lt ha) (by omega)]
  rw [if_neg k5] at hc hL he ⊢
  rw [if_neg k5]
  by_cases k6 : (bdF r t a).1 = ⟨#[]⟩
  · rw [if_pos k6] at hc hL he ⊢
    have hb2 : (bdF r t a).2 ≤ b := by
      have : bdF r t a = (⟨#[]⟩, a) := by
        have hbu := bd_end r t a hlt
        unfold bdF at k6 ⊢
        split
        · rename_i q; rw [if_pos q] at k6
          split
          · rename_i q2; rw [if_pos q2] at k6
            exfalso
            have := ru_gt bCd bCd0 t a (by unfold bCd; rw [q2]; rfl)
            have g2 := ru_le bCd bCd0 t a (by omega)
            have := congrArg (fun x : ByteArray => x.size) k6
            simp only [ByteArray.size_extract] at this
            have e0 : (ByteArray.mk #[]).size = 0 := rfl
            omega
          · rfl
        · rename_i q; rw [if_neg q] at k6
          have g2 := ru_le bLd bLd0 t (a + 1) (by omega)
          split
          · rename_i q1; rw [if_pos q1] at k6
            split
            · rename_i q2; rw [if_pos q2] at k6
              exact absurd k6 (upW_ne t a _ (ru_gt bLd bLd0 t (a + 1) (by unfold bLd; rw [q2.2.1]; rfl)) g2)
            · rfl
          · rename_i q1; rw [if_neg q1] at k6
            split
            · rename_i q2; rw [if_pos q2] at k6
              exact absurd k6 (upW_ne t a _ (ru_gt bLd bLd0 t (a + 1) (by unfold bLd; rw [q2.2]; rfl)) g2)
            · rfl
      rw [this]; exact Nat.le_of_lt ha
    rw [pf_bdF h r a ha hb2, if_pos k6]
    unfold snR at hc he ⊢
    cases hf : fdS (List.drop a t.data.toList) 0 with
    | some s =>
      rw [hf] at he
      simp only at he
      rw [pf_fdS h a (Nat.le_of_lt ha) hf (by omega)]
    | none => rw [hf] at hc; simp only at hc; split at hc <;> exact absurd hc (by decide)
  · rw [if_neg k6] at hc hL he ⊢
    have hb2 : (bdF r t a).2 ≤ b := by
      unfold wdR at hc he
      split at he
      · rename_i q; rw [if_pos q] at hc
        obtain ⟨n, n1, n2, n3, _⟩ := rmR_up hc
        rw [n1] at he; omega
      rename_i q; rw [if_neg q] at hc
      split at he
      · rename_i q2; rw [if_pos q2] at hc
        obtain ⟨n, n1, n2, n3, _⟩ := rmR_up hc
        rw [n1] at he; omega
      · rename_i q2; rw [if_neg q2] at hc
        rw [(sh_up hc).1] at he; omega
    rw [pf_bdF h r a ha hb2, if_neg k6]
    have hrm : ∀ g, (rmR r t (bdF r t a).1 (a : Int) (bdF r t a).2 g l).c = 0 → (rmR r t (bdF r t a).1 (a : Int) (bdF r t a).2 g l).a ≤ (b : Int) → rmR r t' (bdF r t a).1 (a : Int) (bdF r t a).2 g l = rmR r t (bdF r t a).1 (a : Int) (bdF r t a).2 g l := by
      intro g hc he
      unfold rmR at hc he ⊢
      by_cases m : (rmE r t (bdF r t a).1 (a : Int) (bdF r t a).2).2.1 = 0
      · rw [if_pos m] at hc he
        simp only at he
        have u1 := rm_up r t (bdF r t a).1 (a : Int) _ m
        have u2 := rm_up2 r t (bdF r t a).1 (a : Int) k6 _ m
        rw [pf_rmE h r (bdF r t a).1 (a : Int) k6 (bdF r t a).2 m (by omega) (by omega), pf_ext h _ (show (rmE r t (bdF r t a).1 (a : Int) (bdF r t a).2).2.2.1 ≤ b by omega)]
      · rw [if_neg m] at hc; exact absurd hc m
    unfold wdR at hc he ⊢
    split
    · rename_i q; rw [if_pos q] at hc he; exact hrm _ hc he
    rename_i q; rw [if_neg q] at hc he
    split
    · rename_i q2; rw [if_pos q2] at hc he; exact hrm _ hc he
    · rfl



theorem sk_nb (t : ByteArray) (i : Nat) : bBl (pk t (sk t i)) = false := by
  rcases Bool.eq_false_or_eq_true (bBl (pk t i)) with k | k
  · have hlt := lt_of_yes bBl0 k
    have e : sk t i = sk t (i + 1) := ru_yes k
    rw [e]; exact sk_nb t (i + 1)
  · have e : sk t i = i := ru_no k
    rw [e]; exact k
termination_by t.size - i
/-- The places at which steps begin. -/
inductive Vis (t : ByteArray) : Int → Nat → List Sy → Int → Nat → List Sy → Prop
  | here (r : Int) (a : Nat) (l : List Sy) : Vis t r a l r a l
  | go {r : Int} {a : Nat} {l : List Sy} {n : Nat} {r' : Int} {b : Nat} {l' : List Sy} (ha : a < t.size) (hc : (stR r t a l).c = 0) (hn : (stR r t a l).a = (n : Int)) (h : Vis t (stR r t a l).r (sk t n) (stR r t a l).l r' b l') : Vis t r a l r' b l'
theorem vis_le {t : ByteArray} {r r' : Int} {a b : Nat} {l l' : List Sy} (h : Vis t r a l r' b l') : a ≤ b := by
  induction h with
  | here => exact Nat.le_refl _
  | @go r a l n r' b l' ha hc hn h ih =>
    obtain ⟨m, h1, h2, _⟩ := st_up ha hc
    have := sk_ge t n
    omega
theorem vis_sy {t : ByteArray} {r r' : Int} {a b : Nat} {l l' : List Sy} (h : Vis t r a l r' b l') : syL r t a l = syL r' t b l' := by
  induction h with
  | here => rfl
  | go ha hc hn h ih => rw [sy_go ha hc hn]; exact ih
theorem vis_nb {t : ByteArray} {r r' : Int} {a b : Nat} {l l' : List Sy} (h : Vis t r a l r' b l') : bBl (pk t a) = false → bBl (pk t b) = false := by
  induction h with
  | here => exact fun h => h
  | go ha hc hn h ih => exact fun _ => ih (sk_nb t _)
/-- The place at which a symbol begins. -/
theorem vis_at (t : ByteArray) : ∀ (n a : Nat) (r : Int) (l : List Sy), t.size - a ≤ n → (syL r t a l).2.1 = 0 → ∀ i, l.length ≤ i → i < (syL r t a l).2.2.length →
    ∃ (r' : Int) (b : Nat) (l' : List Sy) (s : Sy), b < t.size ∧ Vis t r a l r' b l' ∧ l' = (syL r t a l).2.2.take i ∧ (syL r t a l).2.2[i]? = some s ∧ s.2.2 = (b : Int) ∧ (stR r' t b l').c = 0 ∧ (stR r' t b l').l = l' ++ [s] := by
  intro n
  induction n with
  | zero =>
    intro a r l hn h0 i h1 h2
    rw [sy_end (t := t) (by omega)] at h2
    simp only at h2; omega
  | succ n ih =>
    intro a r l hn h0 i h1 h2
    rcases Nat.lt_or_ge a t.size with ha | ha
    · by_cases hc : (stR r t a l).c = 0
      · obtain ⟨m, m1, m2, m3, m4⟩ := st_up ha hc
        have hk := sk_ge t m
        have hg := sy_go ha hc m1
        rw [hg] at h0 h2
        by_cases hi : (stR r t a l).l.length ≤ i
        · obtain ⟨r', b, l', s, g1, g2, g3, g4, g5⟩ := ih (sk t m) (stR r t a l).r (stR r t a l).l (by omega) h0 i hi h2
          exact ⟨r', b, l', s, g1, Vis.go ha hc m1 g2, by rw [hg]; exact g3, by rw [hg]; exact g4, g5⟩
        · rcases st_add ha hc with e | ⟨s, hs, e⟩
          · rw [e] at hi; omega
          · have hil : i = l.length := by rw [e, List.length_append, List.length_singleton] at hi; omega
            obtain ⟨x, hx⟩ := sy_pre t t.size (sk t m) (stR r t a l).r (stR r t a l).l (by omega) h0
            have hs2 : s.2.2 = (a : Int) := (st_fit ha hc e).1
            refine ⟨r, a, l, s, ha, Vis.here r a l, ?_, ?_, hs2, hc, e⟩
            · rw [hg, hx, e, hil, List.append_assoc, List.take_left']; rfl
            · rw [hg, hx, e, hil, List.append_assoc, List.getElem?_append_right (Nat.le_refl _)]; simp
      · rw [sy_bad ha hc] at h0; exact absurd h0 hc
    · rw [sy_end (t := t) ha] at h2
      simp only at h2; omega
/-- The end is reached. -/
theorem vis_end (t : ByteArray) : ∀ (n a : Nat) (r : Int) (l : List Sy), t.size - a ≤ n → a ≤ t.size → (syL r t a l).2.1 = 0 → ∃ r', Vis t r a l r' t.size (syL r t a l).2.2 := by
  intro n
  induction n with
  | zero =>
    intro a r l hn ha h0
    have : a = t.size := by omega
    subst this
    rw [sy_end (t := t) (Nat.le_refl _)]
    exact ⟨r, Vis.here _ _ _⟩
  | succ n ih =>
    intro a r l hn ha h0
    rcases Nat.lt_or_ge a t.size with ha | ha2
    · by_cases hc : (stR r t a l).c = 0
      · obtain ⟨m, m1, m2, m3, m4⟩ := st_up ha hc
        have hk := sk_ge t m
        have hg := sy_go ha hc m1
        rw [hg] at h0
        obtain ⟨r', hv⟩ := ih (sk t m) (stR r t a l).r (stR r t a l).l (by omega) (sk_le m3) h0
        exact ⟨r', by rw [hg]; exact Vis.go ha hc m1 hv⟩
      · rw [sy_bad ha hc] at h0; exact absurd h0 hc
    · have : a = t.size := by omega
      subst this
      rw [sy_end (t := t) (Nat.le_refl _)]
      exact ⟨r, Vis.here _ _ _⟩
/-- The same places in a text that is alike up to b. -/
theorem vis_pf {t t' : ByteArray} {b : Nat} (h : Pf t t' b) {r r' : Int} {a : Nat} {l l' : List Sy} (hL : ∀ r s, Lk r t t' b s) (hv : Vis t r a l r' b l') : ∀ i, i ≤ b → a = sk t i → syL r t' (sk t' i) l = syL r' t' (sk t' b) l' := by
  induction hv with
  | here r a l =>
    intro i hi he
    rcases pf_sk h i hi with ⟨h1, _⟩ | ⟨_, h2⟩
    · omega
    · rw [h2]
  | @go r a l n r' b l' ha hc hn hv ih =>
    intro i hi he
    have hle := vis_le hv
    have hk := sk_ge t n
    obtain ⟨m, m1, m2, m3, m4⟩ := st_up ha hc
    have hmn : m = n := by omega
    subst hmn
    have hst := pf_stR h a l (by omega) hc (fun _ => hL r _) (by omega)
    rcases pf_sk h i hi with ⟨h1, h2⟩ | ⟨h1, h2⟩
    · have h3 := h.h2
      rw [h2, ← he, sy_go (t := t') (n := m) (by omega) (by rw [hst]; exact hc) (by rw [hst]; exact hn), hst]
      exact ih h hL m (by omega) rfl
    · omega


theorem data_app (a b : ByteArray) : (a ++ b).data.toList = a.data.toList ++ b.data.toList := by
  rw [ByteArray.data_append, Array.toList_append]
theorem syF_ok {r : Int} {t : ByteArray} (h : (syF r t).2.1 = 0) : (0 ≤ r ∧ r ≤ 2) ∧ t.size ≤ 65536 ∧ (syL r t (sk t 0) []).2.1 = 0 ∧ syF r t = (0, 0, (syL r t (sk t 0) []).2.2 ++ [(0, ⟨#[]⟩, (t.size : Int))]) := by
  unfold syF at h ⊢
  by_cases h1 : 0 ≤ r ∧ r ≤ 2
  · rw [if_pos h1] at h ⊢
    by_cases h2 : t.size ≤ 65536
    · rw [if_pos h2] at h ⊢
      by_cases h3 : (syL r t (sk t 0) []).2.1 = 0
      · rw [if_pos h3]; exact ⟨h1, h2, h3, rfl⟩
      · rw [if_neg h3] at h; exact absurd h h3
    · rw [if_neg h2] at h; exact absurd h (by decide)
  · rw [if_neg h1] at h; exact absurd h (by decide)
theorem syF_mk {r : Int} {t : ByteArray} (h1 : 0 ≤ r ∧ r ≤ 2) (h2 : t.size ≤ 65536) (h3 : (syL r t (sk t 0) []).2.1 = 0) : syF r t = (0, 0, (syL r t (sk t 0) []).2.2 ++ [(0, ⟨#[]⟩, (t.size : Int))]) := by
  unfold syF; rw [if_pos h1, if_pos h2, if_pos h3]
theorem syF_bad {r : Int} {t : ByteArray} (h1 : 0 ≤ r ∧ r ≤ 2) (h2 : t.size ≤ 65536) (h3 : (syL r t (sk t 0) []).2.1 ≠ 0) : syF r t = ((syL r t (sk t 0) []).1, (syL r t (sk t 0) []).2.1, []) := by
  unfold syF; rw [if_pos h1, if_pos h2, if_neg h3]
/-- Where the ith symbol begins. -/
theorem sy_place {r : Int} {t : ByteArray} (h : (syF r t).2.1 = 0) (i : Nat) (hi : i < (syF r t).2.2.length) :
    ∃ (r' : Int) (b : Nat), b ≤ t.size ∧ (((syF r t).2.2)[i]?).map (·.2.2) = some (b : Int) ∧ bBl (pk t b) = false ∧ Vis t r (sk t 0) [] r' b ((syF r t).2.2.take i) := by
  obtain ⟨h1, h2, h3, h4⟩ := syF_ok h
  rw [h4] at hi ⊢
  simp only [List.length_append, List.length_singleton] at hi
  rcases Nat.lt_or_ge i (syL r t (sk t 0) []).2.2.length with hl | hl
  · obtain ⟨r', b, l', s, g1, g2, g3, g4, g5, _, _⟩ := vis_at t t.size (sk t 0) r [] (by omega) h3 i (Nat.zero_le _) hl
    refine ⟨r', b, Nat.le_of_lt g1, ?_, vis_nb g2 (sk_nb t 0), ?_⟩
    · simp only
      rw [List.getElem?_append_left hl, g4, Option.map_some, g5]
    · simp only
      rw [List.take_append_of_le_length (Nat.le_of_lt hl), ← g3]; exact g2
  · have hil : i = (syL r t (sk t 0) []).2.2.length := by omega
    obtain ⟨r', hv⟩ := vis_end t t.size (sk t 0) r [] (by omega) (sk_le (Nat.zero_le _)) h3
    refine ⟨r', t.size, Nat.le_refl _, ?_, by rw [pk_out (Nat.le_refl _)]; rfl, ?_⟩
    · simp only
      rw [hil, List.getElem?_append_right (Nat.le_refl _)]; simp
    · simp only
      rw [hil, List.take_left']
      · exact hv
      · rfl
theorem er_end (l l' : List Sy) (a b : Int) (h : er l' = er l) : er (l' ++ [(0, ⟨#[]⟩, a)]) = er (l ++ [(0, ⟨#[]⟩, b)]) := by
  rw [er_app, er_app, h]; rfl
/-- A text with something put in at a place. -/
def ins (t rem : ByteArray) (b : Nat) : ByteArray := t.extract 0 b ++ rem ++ t.extract b t.size
theorem ba_len (t : ByteArray) : t.data.toList.length = t.size := by simp
theorem ins_list (t rem : ByteArray) (b : Nat) : (ins t rem b).data.toList = t.data.toList.take b ++ rem.data.toList ++ t.data.toList.drop b := by
  unfold ins
  rw [data_app, data_app, Lib.extract_data, Lib.extract_data, List.drop_zero, Nat.sub_zero]
  congr 1
  exact List.take_of_length_le (by rw [List.length_drop, ba_len]; exact Nat.le_refl _)
theorem ins_size (t rem : ByteArray) {b : Nat} (hb : b ≤ t.size) : (ins t rem b).size = t.size + rem.size := by
  have := congrArg List.length (ins_list t rem b)
  simp only [List.length_append, List.length_take, List.length_drop, ba_len] at this
  omega
theorem ins_take (t rem : ByteArray) {b : Nat} (hb : b ≤ t.size) : (ins t rem b).data.toList.take b = t.data.toList.take b := by
  have hl : (t.data.toList.take b).length = b := by rw [List.length_take, ba_len]; omega
  rw [ins_list, List.append_assoc, List.take_append_of_le_length (by omega), List.take_of_length_le (by omega)]
theorem ins_sf (t rem : ByteArray) {b : Nat} (hb : b ≤ t.size) : Sf t (ins t rem b) b rem.size := by
  refine ⟨hb, ins_size t rem hb, ?_⟩
  have hl : (t.data.toList.take b ++ rem.data.toList).length = b + rem.size := by rw [List.length_append, List.length_take, ba_len, ba_len]; omega
  rw [ins_list, List.drop_left' hl]
theorem ins_pk (t rem : ByteArray) {b : Nat} (hb : b ≤ t.size) (j : Nat) (hj : j < rem.size) : pk (ins t rem b) (b + j) = pk rem j := by
  have hl : (t.data.toList.take b).length = b := by rw [List.length_take, ba_len]; omega
  rw [pk_get, pk_get, ins_list, List.append_assoc, List.getElem?_append_right (by omega), hl, show b + j - b = j by omega, List.getElem?_append_left (by rw [ba_len]; exact hj)]
theorem cm_run (t : ByteArray) (a : Int) : ∀ (n i : Nat), (∀ j, j < n → bTx (pk t (i + j)) = true ∧ pk t (i + j) ≠ 35) → pk t (i + n) = 35 → i + n < t.size → cmE t a i = (((i + n : Nat) : Int) + 1, 0, 0)
  | 0, i, _, h, hl => by
    rw [Nat.add_zero] at h hl ⊢
    rw [cm_end hl (by rw [h]; rfl) h]
  | n + 1, i, hj, h, hl => by
    have h0 := hj 0 (by omega)
    rw [Nat.add_zero] at h0
    rw [cm_next (by omega) h0.1 h0.2, cm_run t a n (i + 1) (fun j hlt => by rw [show i + 1 + j = i + (j + 1) by omega]; exact hj (j + 1) (by omega)) (by rw [show i + 1 + n = i + (n + 1) by omega]; exact h) (by omega)]
    rw [show i + 1 + n = i + (n + 1) by omega]
/-- What may be put in: blanks, or a comment. -/
def rmk (rem : ByteArray) : Prop := 0 < rem.size ∧ ((∀ j, j < rem.size → bBl (pk rem j) = true) ∨ (2 ≤ rem.size ∧ pk rem 0 = 35 ∧ pk rem (rem.size - 1) = 35 ∧ ∀ j, 1 ≤ j → j < rem.size - 1 → bTx (pk rem j) = true ∧ pk rem j ≠ 35))
theorem ins_blank {t rem : ByteArray} {b : Nat} (hb : b ≤ t.size) (hr : ∀ j, j < rem.size → bBl (pk rem j) = true) (hn : bBl (pk t b) = false) : ∀ (n j : Nat), j + n = rem.size → sk (ins t rem b) (b + j) = b + rem.size
  | 0, j, h => by
    have hs := ins_sf t rem hb
    have e : pk (ins t rem b) (b + j) = pk t b := by rw [show j = rem.size by omega]; exact sf_pk hs (Nat.le_refl b)
    have : sk (ins t rem b) (b + j) = b + j := ru_no (by rw [e]; exact hn)
    rw [this]; omega
  | n + 1, j, h => by
    have e : sk (ins t rem b) (b + j) = sk (ins t rem b) (b + j + 1) := ru_yes (by rw [ins_pk t rem hb j (by omega)]; exact hr j (by omega))
    rw [e]
    exact ins_blank hb hr hn n (j + 1) (by omega)
/-- Blanks or a comment before a symbol change nothing but At. -/
theorem ins_any {r : Int} {t rem : ByteArray} (h : (syF r t).2.1 = 0) (hz : t.size + rem.size ≤ 65536) (hr : rmk rem) (i b : Nat) (hi : i < (syF r t).2.2.length) (hb : (((syF r t).2.2)[i]?).map (·.2.2) = some (b : Int)) :
    (syF r (ins t rem b)).2.1 = 0 ∧ er (syF r (ins t rem b)).2.2 = er (syF r t).2.2 := by
  obtain ⟨h1, h2, h3, h4⟩ := syF_ok h
  obtain ⟨r', b', k1, k2, k3, k4⟩ := sy_place h i hi
  have hbb : b' = b := by rw [k2] at hb; have := Option.some.inj hb; omega
  subst hbb
  have hsf := ins_sf t rem k1
  have hp0 := ins_pk t rem k1 0 hr.1
  rw [Nat.add_zero] at hp0
  have hpf : Pf t (ins t rem b') b' := by
    refine ⟨k1, by rw [ins_size t rem k1]; omega, ins_take t rem k1, ?_, k3⟩
    rw [hp0]
    rcases hr.2 with q | q
    · have q0 := q 0 hr.1
      unfold bBl at q0
      rw [decide_eq_true_eq] at q0
      rcases q0 with q0 | q0 | q0
      · exact Or.inr (Or.inl q0)
      · exact Or.inr (Or.inr (Or.inl q0))
      · exact Or.inr (Or.inr (Or.inr (Or.inl q0)))
    · exact Or.inr (Or.inr (Or.inr (Or.inr q.2.1)))
  have hfin := vis_sy k4
  obtain ⟨l', hl'⟩ : ∃ l', (syF r t).2.2.take i = l' := ⟨_, rfl⟩
  rw [hl'] at k4 hfin
  have hlk : ∀ r s, Lk r t (ins t rem b') b' s := by
    intro r s
    rcases hr.2 with q | ⟨q0, q1, q2, q3⟩
    · exact Or.inr ⟨rem.size, hsf, ins_blank k1 q k3 rem.size 0 (by omega)⟩
    · have e : sk (ins t rem b') b' = b' := ru_no (by rw [hp0, q1]; rfl)
      refine Or.inl ⟨?_, ?_, ?_⟩
      · rw [e]; unfold ch; rw [hp0, q1]; unfold chB; rfl
      · rw [e, hp0, q1]; rintro ⟨k, _⟩; exact absurd k (by decide)
      · rw [e, hp0, q1]; rintro (k | k) <;> exact absurd k (by decide)
  have hv := vis_pf hpf hlk k4 0 (Nat.zero_le _) rfl
  have hat : syL r' (ins t rem b') (sk (ins t rem b') b') l' = syL r' (ins t rem b') (b' + rem.size) l' := by
    rcases hr.2 with q | ⟨q0, q1, q2, q3⟩
    · rw [show sk (ins t rem b') b' = b' + rem.size from ins_blank k1 q k3 rem.size 0 (by omega)]
    · have e : sk (ins t rem b') b' = b' := ru_no (by rw [hp0, q1]; rfl)
      have hlt : b' < (ins t rem b').size := by rw [ins_size t rem k1]; omega
      have hcm : cmE (ins t rem b') (b' : Int) (b' + 1) = (((b' + rem.size : Nat) : Int), 0, 0) := by
        rw [cm_run (ins t rem b') (b' : Int) (rem.size - 2) (b' + 1) (fun j hj => by
          rw [show b' + 1 + j = b' + (1 + j) by omega, ins_pk t rem k1 (1 + j) (by omega)]
          exact q3 (1 + j) (by omega) (by omega)) (by
          rw [show b' + 1 + (rem.size - 2) = b' + (rem.size - 1) by omega, ins_pk t rem k1 _ (by omega)]; exact q2) (by rw [ins_size t rem k1]; omega)]
        simp only [Prod.mk.injEq, and_true]
        omega
      have hst : stR r' (ins t rem b') b' l' = ⟨r', ((b' + rem.size : Nat) : Int), l', 0, 0⟩ := by
        unfold stR
        rw [if_pos (hp0.trans q1), hcm]
      have hsk : sk (ins t rem b') (b' + rem.size) = b' + rem.size := ru_no (by rw [sf_pk hsf (Nat.le_refl b')]; exact k3)
      rw [e, sy_go hlt (by rw [hst]) (n := b' + rem.size) (by rw [hst]), hst, hsk]
  have hsh := sf_syL hsf (t.size) b' r' l' l' (by omega) rfl (Nat.le_refl _)
  rw [← hat, ← hv, ← hfin] at hsh
  have hc : (syL r (ins t rem b') (sk (ins t rem b') 0) []).2.1 = 0 := hsh.1.trans h3
  rw [syF_mk h1 (by rw [ins_size t rem k1]; exact hz) hc, h4]
  exact ⟨rfl, er_end _ _ _ _ (hsh.2.1 h3)⟩
/-- The beginning of a text up to a symbol has the symbols before it. -/
theorem pre_any {r : Int} {t : ByteArray} (h : (syF r t).2.1 = 0) (i b : Nat) (hi : i < (syF r t).2.2.length) (hb : (((syF r t).2.2)[i]?).map (·.2.2) = some (b : Int)) :
    syF r (t.extract 0 b) = (0, 0, (syF r t).2.2.take i ++ [(0, ⟨#[]⟩, (b : Int))]) := by
  obtain ⟨h1, h2, h3, h4⟩ := syF_ok h
  obtain ⟨r', b', k1, k2, k3, k4⟩ := sy_place h i hi
  have hbb : b' = b := by rw [k2] at hb; have := Option.some.inj hb; omega
  subst hbb
  have hl : (t.extract 0 b').data.toList = t.data.toList.take b' := by rw [Lib.extract_data]; simp
  have hsz : (t.extract 0 b').size = b' := by
    have := congrArg List.length hl
    rw [ba_len, List.length_take, ba_len] at this
    omega
  have hp : pk (t.extract 0 b') b' = 0 := pk_out (by omega)
  have hpf : Pf t (t.extract 0 b') b' := ⟨k1, by omega, by rw [hl, List.take_take, Nat.min_self], Or.inl hp, k3⟩
  have e : sk (t.extract 0 b') b' = b' := ru_no (by rw [hp]; rfl)
  have hlk : ∀ r s, Lk r t (t.extract 0 b') b' s := by
    intro r s
    refine Or.inl ⟨?_, ?_, ?_⟩
    · rw [e]; unfold ch; rw [hp]; unfold chB; rfl
    · rw [e, hp]; rintro ⟨k, _⟩; exact absurd k (by decide)
    · rw [e, hp]; rintro (k | k) <;> exact absurd k (by decide)
  have hv := vis_pf hpf hlk k4 0 (Nat.zero_le _) rfl
  rw [e, sy_end (t := t.extract 0 b') (a := b') (by omega)] at hv
  rw [syF_mk h1 (by omega) (by rw [hv]), hv, hsz]
/-- A text behind a beginning that sets the regime. -/
theorem reg_sy {r r' : Int} {hd t : ByteArray} (hr : 0 ≤ r ∧ r ≤ 2) (hr' : 0 ≤ r' ∧ r' ≤ 2) (hz : hd.size + 1 + t.size ≤ 65536) (h0 : 0 < hd.size) (hb : bBl (pk hd 0) = false)
    (hnot : ¬ (bDi (pk hd 0) = true ∨ (pk hd 0 = 46 ∧ bDi (pk hd (0 + 1)) = true) ∨ bSm (ch r hd 0) = true))
    (hst : stR r hd 0 [] = ⟨r', (hd.size : Int), [], 0, 0⟩) :
    (syF r (hd ++ ⟨#[32]⟩ ++ t)).2.1 = (syF r' t).2.1 ∧ ((syF r' t).2.1 ≠ 0 → (syF r (hd ++ ⟨#[32]⟩ ++ t)).1 = (syF r' t).1 + ((hd.size + 1 : Nat) : Int)) ∧ ((syF r' t).2.1 = 0 → er (syF r (hd ++ ⟨#[32]⟩ ++ t)).2.2 = er (syF r' t).2.2) := by
  obtain ⟨T, hT⟩ : ∃ T, hd ++ ⟨#[32]⟩ ++ t = T := ⟨_, rfl⟩
  rw [hT]
  have hlist : T.data.toList = hd.data.toList ++ [32] ++ t.data.toList := by rw [← hT, data_app, data_app]
  have hsz : T.size = hd.size + 1 + t.size := by
    have := congrArg List.length hlist
    simp only [List.length_append, ba_len, List.length_singleton] at this
    exact this
  have hpb : pk T hd.size = 32 := by
    rw [pk_get, hlist, List.append_assoc, List.getElem?_append_right (by rw [ba_len]; exact Nat.le_refl _), ba_len, Nat.sub_self]; rfl
  have hpf : Pf hd T hd.size := by
    refine ⟨Nat.le_refl _, by omega, ?_, Or.inr (Or.inr (Or.inr (Or.inl hpb))), by rw [pk_out (Nat.le_refl _)]; rfl⟩
    rw [hlist, List.append_assoc, List.take_append_of_le_length (by rw [ba_len]; exact Nat.le_refl _)]
  have hsf : Sf t T 0 (hd.size + 1) := by
    refine ⟨Nat.zero_le _, by omega, ?_⟩
    rw [hlist, Nat.zero_add, List.drop_left' (by rw [List.length_append, ba_len]; rfl)]; rfl
  have hs0 : sk T 0 = 0 := ru_no (by rw [pf_pk hpf h0]; exact hb)
  have hst' : stR r T 0 [] = ⟨r', (hd.size : Int), [], 0, 0⟩ := by
    rw [← hst]
    refine pf_stR hpf 0 [] h0 (by rw [hst]) ?_ (by rw [hst]; exact Int.le_refl _)
    exact fun k => absurd k hnot
  have hsk : sk T hd.size = sk t 0 + (hd.size + 1) := by
    have e : sk T hd.size = sk T (hd.size + 1) := ru_yes (by rw [hpb]; rfl)
    have e2 := sf_sk hsf 0 (Nat.le_refl _)
    rw [Nat.zero_add] at e2
    rw [e, e2]
  have hgo : syL r T (sk T 0) [] = syL r' T (sk t 0 + (hd.size + 1)) [] := by
    rw [hs0, sy_go (by omega) (by rw [hst']) (n := hd.size) (by rw [hst']), hst', hsk]
  have hsh := sf_syL hsf t.size (sk t 0) r' [] [] (by omega) rfl (Nat.zero_le _)
  rw [← hgo] at hsh
  by_cases hc : (syL r' t (sk t 0) []).2.1 = 0
  · rw [syF_mk hr (by omega) (hsh.1.trans hc), syF_mk hr' (by omega) hc]
    exact ⟨rfl, fun k => absurd rfl k, fun _ => er_end _ _ _ _ (hsh.2.1 hc)⟩
  · rw [syF_bad hr (by omega) (by rw [hsh.1]; exact hc), syF_bad hr' (by omega) hc]
    exact ⟨hsh.1, fun _ => hsh.2.2 hc, fun k => absurd k hc⟩



/-- A place in a text. -/
def inT (t : ByteArray) (p : Int) : Prop := 0 ≤ p ∧ p ≤ (t.size : Int)
theorem inT_nat {t : ByteArray} {a : Nat} (h : a ≤ t.size) : inT t (a : Int) := ⟨by omega, by omega⟩
theorem cm_p {t : ByteArray} {a : Int} (ha : inT t a) (i : Nat) : (cmE t a i).2.2 ≠ 0 → inT t (cmE t a i).2.1 := by
  rw [cmE]
  split
  · split
    · split
      · intro h; exact absurd rfl h
      · exact cm_p ha (i + 1)
    · intro _; exact inT_nat (by omega)
  · intro _; exact ha
termination_by t.size - i
theorem lit_p {t : ByteArray} {a : Int} (ha : inT t a) (i : Nat) : (litF t i a).2 ≠ 0 → inT t (litF t i a).1 := by
  unfold litF
  split
  · split
    · split
      · intro h; exact absurd rfl h
      · intro _; exact inT_nat (by omega)
    · intro _; exact inT_nat (by omega)
  · intro _; exact ha
theorem qu_p {t : ByteArray} {a : Int} (ha : inT t a) (i : Nat) : (quE t a i).2.1 ≠ 0 → inT t (quE t a i).1 := by
  rw [quE]
  split
  · rename_i k
    have := lit_lt k
    split
    · split
      · exact qu_p ha (i + 1 + 1)
      · intro h; exact absurd rfl h
    · exact qu_p ha (i + 1)
  · rename_i k; intro _; exact lit_p ha i k
termination_by t.size - i
theorem fm_p {t : ByteArray} {a : Int} (ha : inT t a) (i : Nat) (wi : Bool) : (fmE t a i wi).2.1 ≠ 0 → inT t (fmE t a i wi).1 := by
  rw [fmE]
  split
  · intro h; exact absurd rfl h
  · split
    · rename_i k
      have := lit_lt k
      exact fm_p ha (i + 1) _
    · rename_i k; intro _; exact lit_p ha i k
termination_by t.size - i
theorem rm_p {r : Int} {t x : ByteArray} {a : Int} (ha : inT t a) (i : Nat) : (rmE r t x a i).2.1 ≠ 0 → inT t (rmE r t x a i).1 := by
  rw [rmE]
  split
  · split
    · split
      · intro h; exact absurd rfl h
      · exact rm_p ha _
    · intro _; exact inT_nat (by omega)
  · intro _; exact ha
termination_by t.size - i
decreasing_by omega
theorem rmR_p {r : Int} {t x : ByteArray} {a : Int} {f : Nat} {b : Bool} {l : List Sy} (ha : inT t a) : (rmR r t x a f b l).c ≠ 0 → inT t (rmR r t x a f b l).p := by
  unfold rmR
  split
  · intro h; exact absurd rfl h
  · rename_i k; intro _; exact rm_p ha f k
theorem shR_p {r a z k : Int} {t x : ByteArray} {l : List Sy} (ha : inT t a) : (shR r a z k x l).c ≠ 0 → inT t (shR r a z k x l).p := by
  unfold shR
  split
  · intro _; exact ha
  · intro h; exact absurd rfl h
theorem st_p {r : Int} {t : ByteArray} {a : Nat} {l : List Sy} (ha : a < t.size) : (stR r t a l).c ≠ 0 → inT t (stR r t a l).p := by
  have h0 := inT_nat (Nat.le_of_lt ha)
  unfold stR
  split
  · exact cm_p h0 _
  split
  · unfold quR
    split
    · intro h; exact absurd rfl h
    · rename_i k; intro _; exact qu_p h0 _ k
  split
  · unfold fmR
    split
    · intro h; exact absurd rfl h
    · rename_i k; intro _; exact fm_p h0 _ _ k
  split
  · unfold nuR
    split
    · intro _; exact h0
    split
    · intro _; exact h0
    · intro h; exact absurd rfl h
  split
  · exact shR_p h0
  split
  · unfold snR
    split
    · intro h; exact absurd rfl h
    · intro _; exact h0
  · unfold wdR
    split
    · exact rmR_p h0
    split
    · exact rmR_p h0
    · exact shR_p h0
theorem sy_p (t : ByteArray) : ∀ (n a : Nat) (r : Int) (l : List Sy), t.size - a ≤ n → (syL r t a l).2.1 ≠ 0 → inT t (syL r t a l).1 := by
  intro n
  induction n with
  | zero =>
    intro a r l hn h
    rw [sy_end (by omega)] at h
    exact absurd rfl h
  | succ n ih =>
    intro a r l hn h
    rcases Nat.lt_or_ge a t.size with ha | ha
    · by_cases hc : (stR r t a l).c = 0
      · obtain ⟨m, h1, h2, h3, h4⟩ := st_up ha hc
        have hk := sk_ge t m
        rw [sy_go ha hc h1] at h ⊢
        exact ih (sk t m) _ _ (by omega) h
      · rw [sy_bad ha hc]
        exact st_p ha hc
    · rw [sy_end ha] at h
      exact absurd rfl h
theorem syF_p (r : Int) (t : ByteArray) : inT t (syF r t).1 := by
  have h0 : inT t 0 := ⟨by omega, by omega⟩
  unfold syF
  split
  · split
    · split
      · exact h0
      · rename_i h; exact sy_p t t.size (sk t 0) r [] (by omega) h
    · exact h0
  · exact h0
theorem rs_ext {R : Rs} {r a p c : Int} {l : List Sy} (h1 : R.r = r) (h2 : R.a = a) (h3 : R.l = l) (h4 : R.p = p) (h5 : R.c = c) : R = ⟨r, a, l, p, c⟩ := by
  obtain ⟨r', a', l', p', c'⟩ := R
  simp only at h1 h2 h3 h4 h5
  subst h1 h2 h3 h4 h5
  rfl
theorem hst_00 : stR 0 ⟨#[80, 82, 32, 117, 112, 112, 101, 114, 32, 80, 82]⟩ 0 [] = ⟨0, (ByteArray.size ⟨#[80, 82, 32, 117, 112, 112, 101, 114, 32, 80, 82]⟩ : Int), [], 0, 0⟩ := rs_ext (by decide +kernel) (by decide +kernel) (by decide +kernel) (by decide +kernel) (by decide +kernel)
theorem hst_01 : stR 0 ⟨#[80, 82, 32, 80, 111, 105, 110, 116, 32, 80, 82]⟩ 0 [] = ⟨1, (ByteArray.size ⟨#[80, 82, 32, 80, 111, 105, 110, 116, 32, 80, 82]⟩ : Int), [], 0, 0⟩ := rs_ext (by decide +kernel) (by decide +kernel) (by decide +kernel) (by decide +kernel) (by decide +kernel)
theorem hst_02 : stR 0 ⟨#[80, 82, 32, 32, 113, 117, 111, 116, 101, 10, 32, 80, 82]⟩ 0 [] = ⟨2, (ByteArray.size ⟨#[80, 82, 32, 32, 113, 117, 111, 116, 101, 10, 32, 80, 82]⟩ : Int), [], 0, 0⟩ := rs_ext (by decide +kernel) (by decide +kernel) (by decide +kernel) (by decide +kernel) (by decide +kernel)
theorem hst_10 : stR 1 ⟨#[46, 112, 114, 32, 117, 112, 112, 101, 114, 32, 46, 112, 114]⟩ 0 [] = ⟨0, (ByteArray.size ⟨#[46, 112, 114, 32, 117, 112, 112, 101, 114, 32, 46, 112, 114]⟩ : Int), [], 0, 0⟩ := rs_ext (by decide +kernel) (by decide +kernel) (by decide +kernel) (by decide +kernel) (by decide +kernel)
theorem hst_11 : stR 1 ⟨#[46, 112, 114, 32, 80, 79, 73, 78, 84, 32, 46, 112, 114]⟩ 0 [] = ⟨1, (ByteArray.size ⟨#[46, 112, 114, 32, 80, 79, 73, 78, 84, 32, 46, 112, 114]⟩ : Int), [], 0, 0⟩ := rs_ext (by decide +kernel) (by decide +kernel) (by decide +kernel) (by decide +kernel) (by decide +kernel)
theorem hst_12 : stR 1 ⟨#[46, 112, 114, 32, 32, 113, 117, 111, 116, 101, 10, 32, 46, 112, 114]⟩ 0 [] = ⟨2, (ByteArray.size ⟨#[46, 112, 114, 32, 32, 113, 117, 111, 116, 101, 10, 32, 46, 112, 114]⟩ : Int), [], 0, 0⟩ := rs_ext (by decide +kernel) (by decide +kernel) (by decide +kernel) (by decide +kernel) (by decide +kernel)
theorem hst_20 : stR 2 ⟨#[39, 80, 114, 39, 32, 117, 112, 112, 101, 114, 32, 39, 80, 114, 39]⟩ 0 [] = ⟨0, (ByteArray.size ⟨#[39, 80, 114, 39, 32, 117, 112, 112, 101, 114, 32, 39, 80, 114, 39]⟩ : Int), [], 0, 0⟩ := rs_ext (by decide +kernel) (by decide +kernel) (by decide +kernel) (by decide +kernel) (by decide +kernel)
theorem hst_21 : stR 2 ⟨#[39, 80, 114, 39, 32, 80, 79, 73, 78, 84, 32, 39, 80, 114, 39]⟩ 0 [] = ⟨1, (ByteArray.size ⟨#[39, 80, 114, 39, 32, 80, 79, 73, 78, 84, 32, 39, 80, 114, 39]⟩ : Int), [], 0, 0⟩ := rs_ext (by decide +kernel) (by decide +kernel) (by decide +kernel) (by decide +kernel) (by decide +kernel)
theorem hst_22 : stR 2 ⟨#[39, 80, 114, 39, 32, 32, 113, 117, 111, 116, 101, 10, 32, 39, 80, 114, 39]⟩ 0 [] = ⟨2, (ByteArray.size ⟨#[39, 80, 114, 39, 32, 32, 113, 117, 111, 116, 101, 10, 32, 39, 80, 114, 39]⟩ : Int), [], 0, 0⟩ := rs_ext (by decide +kernel) (by decide +kernel) (by decide +kernel) (by decide +kernel) (by decide +kernel)
end Go.Proofs.YtbnldpcbdeeflaaGreatDoor
