/- A text that ends as another one has the same symbols there, further on. No conditions. -/
import Derived.Test.YtbnldpcbdeeflaaGreatDoorWh
namespace Go.Proofs.YtbnldpcbdeeflaaGreatDoor
open Go.ChangeShapes Go.WideShapes Go.ChangeAt Go.RowKit


theorem pk_get (t : ByteArray) (i : Nat) : pk t i = ((t.data.toList[i]?).map (fun c => (c.toNat : Int))).getD 0 := by
  unfold pk
  split
  · rename_i h
    have h2 : i < t.data.toList.length := by simpa using h
    rw [List.getElem?_eq_getElem h2]
    rfl
  · rename_i h
    have h2 : t.data.toList.length ≤ i := by simpa using h
    rw [List.getElem?_eq_none h2]
    rfl
/-- A text that ends as another one from b on, d further. -/
structure Sf (t t' : ByteArray) (b d : Nat) : Prop where
  hb : b ≤ t.size
  sz : t'.size = t.size + d
  dr : t'.data.toList.drop (b + d) = t.data.toList.drop b
theorem sf_drop {t t' : ByteArray} {b d : Nat} (h : Sf t t' b d) {i : Nat} (hi : b ≤ i) : t'.data.toList.drop (i + d) = t.data.toList.drop i := by
  have e1 : i + d = (b + d) + (i - b) := by omega
  have e2 : t.data.toList.drop i = (t.data.toList.drop b).drop (i - b) := by rw [List.drop_drop]; congr 1; omega
  rw [e1, e2, ← List.drop_drop, h.dr]
theorem sf_pk {t t' : ByteArray} {b d : Nat} (h : Sf t t' b d) {i : Nat} (hi : b ≤ i) : pk t' (i + d) = pk t i := by
  rw [pk_get, pk_get]
  have := congrArg (fun l : List UInt8 => l[0]?) ((sf_drop h) hi)
  simp only [List.getElem?_drop, Nat.add_zero] at this
  rw [this]
theorem sf_ch {t t' : ByteArray} {b d : Nat} (h : Sf t t' b d) (r : Int) {i : Nat} (hi : b ≤ i) : ch r t' (i + d) = ch r t i := by
  unfold ch; rw [(sf_pk h) hi]
theorem sf_take {t t' : ByteArray} {b d : Nat} (h : Sf t t' b d) {i : Nat} (j : Nat) (hi : b ≤ i) : List.take (j + d - (i + d)) (List.drop (i + d) t'.data.toList) = List.take (j - i) (List.drop i t.data.toList) := by
  rw [(sf_drop h) hi, Nat.add_sub_add_right]
theorem sf_ext {t t' : ByteArray} {b d : Nat} (h : Sf t t' b d) {i : Nat} (j : Nat) (hi : b ≤ i) : t'.extract (i + d) (j + d) = t.extract i j := by
  have : (t'.extract (i + d) (j + d)).data.toList = (t.extract i j).data.toList := by rw [Lib.extract_data, Lib.extract_data, (sf_take h) j hi]
  exact ByteArray.ext (Array.toList_inj.1 this)
theorem sf_ru {t t' : ByteArray} {b d : Nat} (h : Sf t t' b d) (f : Int → Bool) (hf : f 0 = false) (i : Nat) (hi : b ≤ i) : ru f hf t' (i + d) = ru f hf t i + d := by
  rcases Bool.eq_false_or_eq_true (f (pk t i)) with k | k
  · have hlt := lt_of_yes hf k
    rw [ru_yes k, ru_yes (by rw [(sf_pk h) hi]; exact k), show i + d + 1 = (i + 1) + d by omega]
    exact sf_ru h f hf (i + 1) (by omega)
  · rw [ru_no k, ru_no (by rw [(sf_pk h) hi]; exact k)]
termination_by t.size - i
theorem sf_sk {t t' : ByteArray} {b d : Nat} (h : Sf t t' b d) (i : Nat) (hi : b ≤ i) : sk t' (i + d) = sk t i + d := (sf_ru h) bBl bBl0 i hi
theorem sf_rn {t t' : ByteArray} {b d : Nat} (h : Sf t t' b d) (f : Int → Bool) (hf : f 0 = false) (r : Int) (i e : Nat) (hi : b ≤ i) : rn f hf r t' (i + d) (e + d) = ((rn f hf r t i e).1, (rn f hf r t i e).2 + d) := by
  rcases Bool.eq_false_or_eq_true (f (ch r t i)) with k | k
  · have hlt := ch_lt hf k
    have hs := sk_ge t (i + 1)
    have h1 : sk t' (i + d + 1) = sk t (i + 1) + d := by rw [show i + d + 1 = (i + 1) + d by omega]; exact (sf_sk h) (i + 1) (by omega)
    rw [rn_yes k, rn_yes (by rw [(sf_ch h) r hi]; exact k), h1, show i + d + 1 = (i + 1) + d by omega, sf_rn h f hf r (sk t (i + 1)) (i + 1) (by omega), (sf_ch h) r hi]
  · rw [rn_no k, rn_no (by rw [(sf_ch h) r hi]; exact k)]
termination_by t.size - i
decreasing_by omega
theorem sf_rnF {t t' : ByteArray} {b d : Nat} (h : Sf t t' b d) (f : Int → Bool) (hf : f 0 = false) (r : Int) (i : Nat) (hi : b ≤ i) : rnF f hf r t' (i + d) = ((rnF f hf r t i).1, (rnF f hf r t i).2 + d) := by
  unfold rnF
  have := sk_ge t i
  rw [(sf_sk h) i hi, (sf_rn h) f hf r _ _ (by omega)]
theorem sf_rdF {t t' : ByteArray} {b d : Nat} (h : Sf t t' b d) (r : Int) (i : Nat) (hi : b ≤ i) : rdF r t' (i + d) = ((rdF r t i).1, (rdF r t i).2 + d) := by
  have hs := sk_ge t i
  unfold rdF
  rw [(sf_sk h) i hi, (sf_ch h) r (by omega)]
  split
  · rw [show sk t i + d + 1 = (sk t i + 1) + d by omega, (sf_rnF h) bHx bHx0 r _ (by omega)]
  · rfl
theorem exS_mv (t t' : ByteArray) (a d : Nat) (pre : ByteArray) (q : List UInt8 × Nat) : exS t' (a + d) pre (q.1, q.2 + d) = ((exS t a pre q).1, (exS t a pre q).2 + d) := by
  unfold exS
  simp only
  split
  · rfl
  · rfl


theorem sf_exF {t t' : ByteArray} {b d : Nat} (h : Sf t t' b d) (r : Int) (i : Nat) (hi : b ≤ i) : exF r t' (i + d) = ((exF r t i).1, (exF r t i).2 + d) := by
  have hs := sk_ge t i
  have hs2 := sk_ge t (sk t i + 1)
  have e1 : sk t' (sk t i + d + 1) = sk t (sk t i + 1) + d := by rw [show sk t i + d + 1 = (sk t i + 1) + d by omega]; exact sf_sk h _ (by omega)
  unfold exF
  rw [sf_sk h i hi, sf_ch h r (by omega), e1, sf_pk h (by omega)]
  split
  · split
    · rw [show sk t (sk t i + 1) + d + 1 = (sk t (sk t i + 1) + 1) + d by omega, sf_ext h _ (by omega), sf_rnF h bDi bDi0 r _ (by omega)]
      exact exS_mv t t' i d _ _
    · rw [sf_rnF h bDi bDi0 r _ (by omega)]
      exact exS_mv t t' i d _ _
  · rfl
theorem sf_mnF {t t' : ByteArray} {b d : Nat} (h : Sf t t' b d) (r : Int) (q : List UInt8 × Nat) (hi : b ≤ q.2) : mnF r t' (q.1, q.2 + d) = ((mnF r t q).1, (mnF r t q).2.1, (mnF r t q).2.2 + d) := by
  have hs := sk_ge t q.2
  unfold mnF
  simp only
  rw [sf_sk h _ hi, show sk t q.2 + d + 1 = (sk t q.2 + 1) + d by omega, sf_pk h (by omega), sf_pk h (by omega), sf_rnF h bDi bDi0 r _ (by omega)]
  split
  · rfl
  · rfl
theorem sf_xnF {t t' : ByteArray} {b d : Nat} (h : Sf t t' b d) (r : Int) (m : Int × ByteArray × Nat) (hi : b ≤ m.2.2) : xnF r t' (m.1, m.2.1, m.2.2 + d) = ((xnF r t m).1, (xnF r t m).2.1, (xnF r t m).2.2 + d) := by
  unfold xnF
  simp only
  rw [sf_exF h r _ hi]
  simp only
  split
  · rfl
  · rfl
theorem sf_nbF {t t' : ByteArray} {b d : Nat} (h : Sf t t' b d) (r : Int) (i : Nat) (hi : b ≤ i) (hi2 : i ≤ t.size) : nbF r t' (i + d) = ((nbF r t i).1, (nbF r t i).2.1, (nbF r t i).2.2 + d) := by
  have h1 := rnF_ge bDi bDi0 r t i
  have h2 := rnF_end bDi bDi0 r t i hi2
  have h3 := (mnF_bd r t _ h2).1
  unfold nbF
  rw [sf_rnF h bDi bDi0 r i hi]
  simp only
  rw [sf_rdF h r _ (by omega)]
  simp only
  split
  · have e := sf_mnF h r (rnF bDi bDi0 r t i) (by omega)
    rw [e]
    exact sf_xnF h r (mnF r t (rnF bDi bDi0 r t i)) (by omega)
  · rfl
theorem sf_cmE {t t' : ByteArray} {b d : Nat} (h : Sf t t' b d) (a : Int) (i : Nat) (hi : b ≤ i) :
    (cmE t' (a + (d : Int)) (i + d)).2.2 = (cmE t a i).2.2 ∧ ((cmE t a i).2.2 = 0 → (cmE t' (a + (d : Int)) (i + d)).1 = (cmE t a i).1 + (d : Int)) ∧ ((cmE t a i).2.2 ≠ 0 → (cmE t' (a + (d : Int)) (i + d)).2.1 = (cmE t a i).2.1 + (d : Int)) := by
  rcases Nat.lt_or_ge i t.size with hlt | hge
  · have hlt' : i + d < t'.size := by rw [h.sz]; omega
    rcases Bool.eq_false_or_eq_true (bTx (pk t i)) with k | k
    · by_cases n : pk t i = 35
      · rw [cm_end hlt k n, cm_end hlt' (by rw [sf_pk h hi]; exact k) (by rw [sf_pk h hi]; exact n)]
        refine ⟨rfl, fun _ => ?_, fun e => absurd rfl e⟩
        simp only; omega
      · rw [cm_next hlt k n, cm_next hlt' (by rw [sf_pk h hi]; exact k) (by rw [sf_pk h hi]; exact n), show i + d + 1 = (i + 1) + d by omega]
        exact sf_cmE h a (i + 1) (by omega)
    · rw [cm_bad hlt k, cm_bad hlt' (by rw [sf_pk h hi]; exact k)]
      refine ⟨rfl, fun e => absurd e (by simp), fun _ => ?_⟩
      simp only; omega
  · rw [cm_out hge, cm_out (by rw [h.sz]; omega)]
    exact ⟨rfl, fun e => absurd e (by simp), fun _ => rfl⟩
termination_by t.size - i
theorem sf_litF {t t' : ByteArray} {b d : Nat} (h : Sf t t' b d) (i : Nat) (a : Int) (hi : b ≤ i) : (litF t' (i + d) (a + (d : Int))).2 = (litF t i a).2 ∧ ((litF t i a).2 ≠ 0 → (litF t' (i + d) (a + (d : Int))).1 = (litF t i a).1 + (d : Int)) := by
  have e : i + d < t'.size ↔ i < t.size := by rw [h.sz]; omega
  unfold litF
  rw [sf_pk h hi]
  by_cases h1 : i < t.size
  · rw [if_pos h1, if_pos (e.2 h1)]
    split
    · split
      · exact ⟨rfl, fun k => absurd rfl k⟩
      · exact ⟨rfl, fun _ => by simp only; omega⟩
    · exact ⟨rfl, fun _ => by simp only; omega⟩
  · rw [if_neg h1, if_neg (fun k => h1 (e.1 k))]
    exact ⟨rfl, fun _ => rfl⟩
theorem sf_quE {t t' : ByteArray} {b d : Nat} (h : Sf t t' b d) (a : Int) (i : Nat) (hi : b ≤ i) :
    (quE t' (a + (d : Int)) (i + d)).2.1 = (quE t a i).2.1 ∧ (quE t' (a + (d : Int)) (i + d)).2.2 = (quE t a i).2.2 + d ∧ ((quE t a i).2.1 ≠ 0 → (quE t' (a + (d : Int)) (i + d)).1 = (quE t a i).1 + (d : Int)) := by
  have hl := sf_litF h i a hi
  by_cases k : (litF t i a).2 = 0
  · have hlt := lit_lt k
    have k' : (litF t' (i + d) (a + (d : Int))).2 = 0 := hl.1.trans k
    have p0 := sf_pk h hi
    have p1 : pk t' (i + d + 1) = pk t (i + 1) := by rw [show i + d + 1 = (i + 1) + d by omega]; exact sf_pk h (by omega)
    by_cases h34 : pk t i = 34
    · by_cases n : pk t (i + 1) = 34
      · rw [qu_two k h34 n, qu_two k' (p0.trans h34) (p1.trans n), show i + d + 1 + 1 = (i + 1 + 1) + d by omega]
        exact sf_quE h a (i + 1 + 1) (by omega)
      · rw [qu_end k h34 n, qu_end k' (p0.trans h34) (by rw [p1]; exact n)]
        exact ⟨rfl, rfl, fun e => absurd rfl e⟩
    · rw [qu_one k h34, qu_one k' (by rw [p0]; exact h34), show i + d + 1 = (i + 1) + d by omega]
      exact sf_quE h a (i + 1) (by omega)
  · rw [qu_bad k, qu_bad (by rw [hl.1]; exact k)]
    exact ⟨hl.1, rfl, fun _ => hl.2 k⟩
termination_by t.size - i
theorem sf_fmE {t t' : ByteArray} {b d : Nat} (h : Sf t t' b d) (a : Int) (i : Nat) (wi : Bool) (hi : b ≤ i) :
    (fmE t' (a + (d : Int)) (i + d) wi).2.1 = (fmE t a i wi).2.1 ∧ (fmE t' (a + (d : Int)) (i + d) wi).2.2 = (fmE t a i wi).2.2 + d ∧ ((fmE t a i wi).2.1 ≠ 0 → (fmE t' (a + (d : Int)) (i + d) wi).1 = (fmE t a i wi).1 + (d : Int)) := by
  have hl := sf_litF h i a hi
  have p0 := sf_pk h hi
  by_cases h36 : wi = false ∧ pk t i = 36
  · obtain ⟨rfl, h36⟩ := h36
    rw [fm_end h36, fm_end (p0.trans h36)]
    exact ⟨rfl, rfl, fun e => absurd rfl e⟩
  · have h36' : ¬ (wi = false ∧ pk t' (i + d) = 36) := by rw [p0]; exact h36
    by_cases k : (litF t i a).2 = 0
    · have hlt := lit_lt k
      rw [fm_go h36 k, fm_go h36' (hl.1.trans k), p0, show i + d + 1 = (i + 1) + d by omega]
      exact sf_fmE h a (i + 1) _ (by omega)
    · rw [fm_bad h36 k, fm_bad h36' (by rw [hl.1]; exact k)]
      exact ⟨hl.1, rfl, fun _ => hl.2 k⟩
termination_by t.size - i
theorem sf_quT {t t' : ByteArray} {b d : Nat} (h : Sf t t' b d) (i j : Nat) (hi : b ≤ i) : quT t' (i + d) (j + d) = quT t i j := by
  unfold quT; rw [sf_take h j hi]
theorem sf_upW {t t' : ByteArray} {b d : Nat} (h : Sf t t' b d) (i j : Nat) (hi : b ≤ i) : upW t' (i + d) (j + d) = upW t i j := by
  unfold upW; rw [sf_take h j hi]
theorem sf_bdF {t t' : ByteArray} {b d : Nat} (h : Sf t t' b d) (r : Int) (i : Nat) (hi : b ≤ i) : bdF r t' (i + d) = ((bdF r t i).1, (bdF r t i).2 + d) := by
  have e1 : i + d + 1 = (i + 1) + d := by omega
  have e2 := ru_ge bLd bLd0 t (i + 1)
  unfold bdF
  rw [e1, sf_ru h bCd bCd0 i hi, sf_ru h bLd bLd0 (i + 1) (by omega), sf_pk h hi, sf_pk h (i := i + 1) (by omega), sf_pk h (i := ru bLd bLd0 t (i + 1)) (by omega), sf_ext h _ hi, sf_upW h _ _ (by omega)]
  split
  · split <;> rfl
  · split
    · split
      · simp only; congr 1; omega
      · rfl
    · split <;> rfl
theorem sf_jn {t t' : ByteArray} {b d : Nat} (h : Sf t t' b d) (r : Int) (i : Nat) (hi : b < i) : jn r t' (i + d) = jn r t i := by
  unfold jn
  rw [show i + d - 1 = (i - 1) + d by omega, sf_pk h (by omega)]
theorem sf_rmE {t t' : ByteArray} {b d : Nat} (h : Sf t t' b d) (r : Int) (x : ByteArray) (a : Int) (i : Nat) (hi : b < i) :
    (rmE r t' x (a + (d : Int)) (i + d)).2.1 = (rmE r t x a i).2.1 ∧ (rmE r t' x (a + (d : Int)) (i + d)).2.2.1 = (rmE r t x a i).2.2.1 + d ∧ (rmE r t' x (a + (d : Int)) (i + d)).2.2.2 = (rmE r t x a i).2.2.2 + d ∧ ((rmE r t x a i).2.1 ≠ 0 → (rmE r t' x (a + (d : Int)) (i + d)).1 = (rmE r t x a i).1 + (d : Int)) := by
  rcases Nat.lt_or_ge i t.size with hlt | hge
  · have hlt' : i + d < t'.size := by rw [h.sz]; omega
    have p0 := sf_pk h (i := i) (by omega)
    have hb := sf_bdF h r i (by omega)
    have hj := sf_jn h r i hi
    rcases Bool.eq_false_or_eq_true (bTx (pk t i)) with k | k
    · by_cases m : (bdF r t i).1 = x ∧ jn r t i = false
      · rw [rm_end hlt k m.1 m.2, rm_end hlt' (by rw [p0]; exact k) (by rw [hb]; exact m.1) (by rw [hj]; exact m.2), hb]
        exact ⟨rfl, rfl, rfl, fun e => absurd rfl e⟩
      · rw [rm_go hlt k m, rm_go hlt' (by rw [p0]; exact k) (by rw [hb, hj]; exact m), hb, show max (i + d + 1) ((bdF r t i).2 + d) = max (i + 1) (bdF r t i).2 + d by omega]
        exact sf_rmE h r x a _ (by omega)
    · rw [rm_bad hlt k, rm_bad hlt' (by rw [p0]; exact k)]
      exact ⟨rfl, rfl, rfl, fun _ => by simp only; omega⟩
  · rw [rm_out hge, rm_out (by rw [h.sz]; omega)]
    exact ⟨rfl, rfl, rfl, fun _ => rfl⟩
termination_by t.size - i
decreasing_by omega


/-- Symbols but for At. -/
def er (l : List Sy) : List (Int × ByteArray) := l.map fun s => (s.1, s.2.1)
theorem er_app (l m : List Sy) : er (l ++ m) = er l ++ er m := List.map_append
/-- What a step leaves, d further. -/
structure ShR (d : Nat) (R R' : Rs) : Prop where
  r : R'.r = R.r
  c : R'.c = R.c
  a : R.c = 0 → R'.a = R.a + (d : Int)
  p : R.c ≠ 0 → R'.p = R.p + (d : Int)
  l : er R'.l = er R.l
theorem sf_shR (d : Nat) (r a z k : Int) (x : ByteArray) {l l' : List Sy} (hl : er l' = er l) : ShR d (shR r a z k x l) (shR r (a + (d : Int)) (z + (d : Int)) k x l') := by
  unfold shR
  split
  · exact ⟨rfl, rfl, fun e => absurd e (by simp), fun _ => rfl, hl⟩
  · exact ⟨rfl, rfl, fun _ => rfl, fun e => absurd rfl e, by simp only [er_app, hl]; rfl⟩
theorem sf_rmR {t t' : ByteArray} {b d : Nat} (h : Sf t t' b d) (r : Int) (x : ByteArray) (a : Int) (f : Nat) (g : Bool) {l l' : List Sy} (hl : er l' = er l) (hi : b < f) : ShR d (rmR r t x a f g l) (rmR r t' x (a + (d : Int)) (f + d) g l') := by
  obtain ⟨h1, h2, h3, h4⟩ := sf_rmE h r x a f hi
  unfold rmR
  rw [h1]
  by_cases hc : (rmE r t x a f).2.1 = 0
  · rw [if_pos hc, if_pos hc]
    refine ⟨?_, rfl, fun _ => ?_, fun e => absurd rfl e, hl⟩
    · simp only [h2, sf_ext h _ (Nat.le_of_lt hi)]
    · simp only [h3]; omega
  · rw [if_neg hc, if_neg hc]
    exact ⟨rfl, rfl, fun e => absurd e hc, fun _ => h4 hc, hl⟩
theorem sf_wdR {t t' : ByteArray} {b d : Nat} (h : Sf t t' b d) (r : Int) (x : ByteArray) (a : Int) (f : Nat) {l l' : List Sy} (hl : er l' = er l) (hi : b < f) : ShR d (wdR r t x a f l) (wdR r t' x (a + (d : Int)) (f + d) l') := by
  unfold wdR
  split
  · exact sf_rmR h r x a f _ hl hi
  split
  · exact sf_rmR h r x a f _ hl hi
  · exact sf_shR d r a f 1 x hl
theorem sf_snR {t t' : ByteArray} {b d : Nat} (h : Sf t t' b d) (r : Int) (a : Nat) {l l' : List Sy} (hl : er l' = er l) (hi : b ≤ a) : ShR d (snR r t a l) (snR r t' (a + d) l') := by
  unfold snR
  rw [sf_drop h hi, sf_pk h hi]
  split
  · refine ⟨rfl, rfl, fun _ => ?_, fun e => absurd rfl e, by simp only [er_app, hl]; rfl⟩
    simp only; omega
  · refine ⟨rfl, rfl, fun e => absurd e ?_, fun _ => ?_, hl⟩
    · simp only; split <;> decide
    · simp only; omega
theorem sf_nuR {t t' : ByteArray} {b d : Nat} (h : Sf t t' b d) (r : Int) (a : Nat) {l l' : List Sy} (hl : er l' = er l) (hi : b ≤ a) (ha : a ≤ t.size) : ShR d (nuR r t a l) (nuR r t' (a + d) l') := by
  have h1 := rnF_ge bDi bDi0 r t a
  unfold nuR
  rw [sf_nbF h r a hi ha, sf_rnF h bDi bDi0 r a hi]
  simp only
  rw [sf_rdF h r _ (by omega)]
  simp only
  split
  · exact ⟨rfl, rfl, fun e => absurd e (by simp), fun _ => by simp only; omega, hl⟩
  split
  · exact ⟨rfl, rfl, fun e => absurd e (by simp), fun _ => by simp only; omega, hl⟩
  · exact ⟨rfl, rfl, fun _ => by simp only; omega, fun e => absurd rfl e, by simp only [er_app, hl]; rfl⟩
theorem sf_quR {t t' : ByteArray} {b d : Nat} (h : Sf t t' b d) (r : Int) (a : Nat) {l l' : List Sy} (hl : er l' = er l) (hi : b ≤ a) : ShR d (quR r t a l) (quR r t' (a + d) l') := by
  have e1 : a + d + 1 = (a + 1) + d := by omega
  have e2 : ((a + d : Nat) : Int) = (a : Int) + (d : Int) := by omega
  obtain ⟨h1, h2, h3⟩ := sf_quE h (a : Int) (a + 1) (by omega)
  unfold quR
  rw [e1, e2, h1]
  by_cases hc : (quE t (a : Int) (a + 1)).2.1 = 0
  · rw [if_pos hc, if_pos hc]
    refine ⟨rfl, rfl, fun _ => ?_, fun e => absurd rfl e, ?_⟩
    · simp only [h2]; omega
    · simp only [er_app, hl, h2, sf_quT h _ _ (Nat.le_trans hi (Nat.le_succ a))]; rfl
  · rw [if_neg hc, if_neg hc]
    exact ⟨rfl, rfl, fun e => absurd e hc, fun _ => h3 hc, hl⟩
theorem sf_fmR {t t' : ByteArray} {b d : Nat} (h : Sf t t' b d) (r : Int) (a : Nat) {l l' : List Sy} (hl : er l' = er l) (hi : b ≤ a) : ShR d (fmR r t a l) (fmR r t' (a + d) l') := by
  have e1 : a + d + 1 = (a + 1) + d := by omega
  have e2 : ((a + d : Nat) : Int) = (a : Int) + (d : Int) := by omega
  obtain ⟨h1, h2, h3⟩ := sf_fmE h (a : Int) (a + 1) false (by omega)
  unfold fmR
  rw [e1, e2, h1]
  by_cases hc : (fmE t (a : Int) (a + 1) false).2.1 = 0
  · rw [if_pos hc, if_pos hc]
    refine ⟨rfl, rfl, fun _ => ?_, fun e => absurd rfl e, ?_⟩
    · simp only [h2]; omega
    · simp only [er_app, hl, h2, sf_ext h _ (Nat.le_trans hi (Nat.le_succ a))]; rfl
  · rw [if_neg hc, if_neg hc]
    exact ⟨rfl, rfl, fun e => absurd e hc, fun _ => h3 hc, hl⟩
theorem sf_stR {t t' : ByteArray} {b d : Nat} (h : Sf t t' b d) (r : Int) (a : Nat) {l l' : List Sy} (hl : er l' = er l) (hi : b ≤ a) (ha : a < t.size) : ShR d (stR r t a l) (stR r t' (a + d) l') := by
  have e1 : a + d + 1 = (a + 1) + d := by omega
  have e2 : ((a + d : Nat) : Int) = (a : Int) + (d : Int) := by omega
  have p1 := sf_pk h (i := a + 1) (by omega)
  unfold stR
  rw [e1, sf_pk h hi, p1, sf_ch h r hi]
  split
  · obtain ⟨h1, h2, h3⟩ := sf_cmE h (a : Int) (a + 1) (by omega)
    rw [e2]
    exact ⟨rfl, h1, h2, h3, hl⟩
  split
  · exact sf_quR h r a hl hi
  split
  · exact sf_fmR h r a hl hi
  split
  · exact sf_nuR h r a hl hi (Nat.le_of_lt ha)
  split
  · rw [sf_rnF h bSd bSd0 r a hi, e2]
    have e3 : (((rnF bSd bSd0 r t a).2 + d : Nat) : Int) = ((rnF bSd bSd0 r t a).2 : Int) + (d : Int) := by omega
    simp only [e3]
    exact sf_shR d r a _ 2 _ hl
  rw [sf_bdF h r a hi]
  simp only
  split
  · exact sf_snR h r a hl hi
  · rename_i hx
    rw [e2]
    exact sf_wdR h r _ a _ hl (Nat.lt_of_le_of_lt hi (bd_up hx))
/-- The symbols from a place on, d further. -/
theorem sf_syL {t t' : ByteArray} {b d : Nat} (h : Sf t t' b d) : ∀ (n a : Nat) (r : Int) (l l' : List Sy), t.size - a ≤ n → er l' = er l → b ≤ a →
    (syL r t' (a + d) l').2.1 = (syL r t a l).2.1 ∧ ((syL r t a l).2.1 = 0 → er (syL r t' (a + d) l').2.2 = er (syL r t a l).2.2) ∧ ((syL r t a l).2.1 ≠ 0 → (syL r t' (a + d) l').1 = (syL r t a l).1 + (d : Int)) := by
  intro n
  induction n with
  | zero =>
    intro a r l l' hn hl hi
    rw [sy_end (t := t) (by omega), sy_end (t := t') (by rw [h.sz]; omega)]
    exact ⟨rfl, fun _ => hl, fun e => absurd rfl e⟩
  | succ n ih =>
    intro a r l l' hn hl hi
    rcases Nat.lt_or_ge a t.size with ha | ha
    · have ha' : a + d < t'.size := by rw [h.sz]; omega
      have hs := sf_stR h r a hl hi ha
      by_cases hc : (stR r t a l).c = 0
      · obtain ⟨m, h1, h2, h3, h4⟩ := st_up ha hc
        have h1' : (stR r t' (a + d) l').a = ((m + d : Nat) : Int) := by rw [hs.a hc, h1]; omega
        rw [sy_go ha hc h1, sy_go ha' (hs.c.trans hc) h1', hs.r, sf_sk h m (by omega)]
        have hk := sk_ge t m
        exact ih (sk t m) (stR r t a l).r _ _ (by omega) hs.l (by omega)
      · rw [sy_bad ha hc, sy_bad ha' (by rw [hs.c]; exact hc)]
        exact ⟨hs.c, fun e => absurd e hc, fun _ => hs.p hc⟩
    · rw [sy_end (t := t) ha, sy_end (t := t') (by rw [h.sz]; omega)]
      exact ⟨rfl, fun _ => hl, fun e => absurd rfl e⟩
end Go.Proofs.YtbnldpcbdeeflaaGreatDoor
