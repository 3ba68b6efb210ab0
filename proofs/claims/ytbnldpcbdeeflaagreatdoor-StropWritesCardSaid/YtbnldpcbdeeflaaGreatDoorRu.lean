/- The reference's numbers. Condition: its block and its list lie in blocks of the call's own. -/
import Derived.Test.YtbnldpcbdeeflaaGreatDoorRk
namespace Go.Proofs.YtbnldpcbdeeflaaGreatDoor
open Go.ChangeShapes Go.WideShapes Go.ChangeAt Go.RowKit

theorem sk_le1 {t : ByteArray} {i : Nat} (h : i ≤ t.size + 1) : sk t i ≤ t.size + 1 := by
  rcases Nat.lt_or_ge t.size i with h1 | h1
  · have : sk t i = i := ru_no (by rw [pk_out (by omega)]; rfl)
    omega
  · have := sk_le h1
    omega
theorem r_ch {r : Int} {t : ByteArray} {k : Nat} (h : ¬ (loA (pk t k) = 114 ∧ ltB r (pk t k) = true)) : ch r t k ≠ 114 := by
  intro hc
  cases hl : ltB r (pk t k)
  · have := no_ch hl
    rw [show chB r (pk t k) = 114 from hc] at this
    cases this
  · exact h ⟨by rw [← lo_ch hl]; exact hc, hl⟩
theorem rn_start (f : Int → Bool) (hf : f 0 = false) (r : Int) (t : ByteArray) (m e e' : Nat) (h : f (ch r t m) = true) : rn f hf r t m e = rn f hf r t m e' := by
  rw [rn_yes h, rn_yes h]
theorem rd_no1 {r : Int} {t : ByteArray} {q : Nat} (h : ch r t (sk t q) ≠ 114) : (rdF r t q).1 = [] := by unfold rdF; rw [if_neg h]
theorem rd_no2 {r : Int} {t : ByteArray} {q : Nat} (h : bHx (ch r t (sk t (sk t q + 1))) = false) : (rdF r t q).1 = [] := by
  unfold rdF
  split
  · unfold rnF; rw [rn_no h]
  · rfl
theorem rd_yes {r : Int} {t : ByteArray} {q : Nat} (h : ch r t (sk t q) = 114) (k : bHx (ch r t (sk t (sk t q + 1))) = true) : rdF r t q = rn bHx bHx0 r t (sk t (sk t q + 1)) (sk t (sk t q + 1)) := by
  unfold rdF
  rw [if_pos h]
  unfold rnF
  exact rn_start _ _ _ _ _ _ _ k
theorem rn_hex (r : Int) (t : ByteArray) (i e : Nat) : ∀ c ∈ (rn bHx bHx0 r t i e).1, bHx (c.toNat : Int) = true := by
  intro c hc
  obtain ⟨k, rfl, hk⟩ := rn_all bHx bHx0 r t _ _ c hc
  have hb := ch_bd r t k
  rw [cu_nat hb.1 hb.2, Int.toNat_of_nonneg hb.1]
  exact hk
theorem nu_bits {r : Int} {t : ByteArray} {a : Nat} {l : List Sy} {ql : List UInt8} {qe : Nat} (hq : rnF bDi bDi0 r t a = (ql, qe)) (h : ch r t (sk t qe) = 114) (k : bHx (ch r t (sk t (sk t qe + 1))) = true) : nuR r t a l = bkR r t a (sk t (sk t qe + 1)) ql l := by
  have hr := rd_yes h k
  have hne : (rdF r t qe).1 ≠ [] := by rw [hr, rn_yes k]; exact List.cons_ne_nil _ _
  have hnb : nbF r t a = (5, ⟨ql.toArray⟩ ++ ⟨#[114]⟩ ++ ⟨(rdF r t qe).1.toArray⟩, (rdF r t qe).2) := by
    unfold nbF
    rw [hq]
    simp only
    rw [if_neg hne]
  have hx : (⟨ql.toArray⟩ ++ ⟨#[114]⟩ ++ ⟨(rdF r t qe).1.toArray⟩ : ByteArray) = ⟨(ql ++ 114 :: (rdF r t qe).1).toArray⟩ := by
    apply ByteArray.ext
    rw [ByteArray.data_append, ByteArray.data_append]
    simp
  unfold nuR bkR
  rw [hnb, hq]
  simp only
  rw [hx, ← hr, ab_ov ql _ (by rw [hr]; exact rn_hex r t _ _)]
  by_cases h1 : 100 < lc ⟨(ql ++ 114 :: (rdF r t qe).1).toArray⟩ 0
  · rw [if_pos h1, if_pos h1]
  · rw [if_neg h1, if_neg h1]
    cases hb : (decide (rdV ql = 0) || (rdF r t qe).1.any (ovD (rdV ql)))
    · rw [if_neg (fun h => by cases h.2), if_neg (by decide)]
    · rw [if_pos ⟨trivial, rfl⟩, if_pos rfl]
/-- A number's step that is none of bits. -/
def nuS (r : Int) (a : Nat) (l : List Sy) (K : Int) (X : ByteArray) (Z : Nat) : Rs := if 100 < lc X 0 then ⟨r, a, l, a, 3⟩ else ⟨r, Z, l ++ [(K, X, (a : Int))], 0, 0⟩
theorem nu_s {r : Int} {t : ByteArray} {a : Nat} {l : List Sy} {K : Int} {X : ByteArray} {Z : Nat} (h : nbF r t a = (K, X, Z)) (hK : K ≠ 5) : nuR r t a l = nuS r a l K X Z := by
  unfold nuR nuS
  rw [h]
  simp only
  split
  · rfl
  · rw [if_neg (fun h => hK h.1)]
set_option maxRecDepth 100000 in
set_option maxHeartbeats 8000000 in
theorem rnum_bits (B S a : Nat) (t : ByteArray) (r b : Int) (v : Value) (l : List Sy) (w : World) (hS : Rc w S t (a : Int) r v 0 b) (hL : Sl w B v l) (hB : B ≤ S) (hl : t.size ≤ 100000) (hll : l.length ≤ 1000000) (ha : a < t.size) (hd : bDi (pk t a) = true) (ql : List UInt8) (qe : Nat) (hq : rnF bDi bDi0 r t a = (ql, qe)) (hw1 : loA (pk t (sk t qe)) = 114) (hw2 : ltB r (pk t (sk t qe)) = true) (hw3 : 0 ≤ hxA (loA (pk t (sk t (sk t qe + 1))))) (hw4 : (bDi (pk t (sk t (sk t qe + 1))) || ltB r (pk t (sk t (sk t qe + 1)))) = true) :
    Calls Tryz.prog 61 #[.pointer (some ⟨S, 0, none⟩)] w (RPo B S t w (bkR r t a (sk t (sk t qe + 1)) ql l)) := by
  have hlt := hS.lt
  have c0 := hS.c0
  have c1 := hS.c1
  have c2 := hS.c2
  have HSR := Lib.hid hS
  have HLR := Lib.hid hL
  have hpa := (pk_in ha).symm
  have hqe : qe ≤ t.size := by have := rnF_end bDi bDi0 r t a (by omega); rw [hq] at this; exact this
  have hqa : ql.length ≤ 100000 := by have := rnF_len bDi bDi0 r t a; rw [hq] at this; simp only at this; omega
  have h1 := rdig_any t S a r w c0 hl (by omega) (ru_no (di_ch (r := r) hd).2)
  rw [hq] at h1
  have hk1 := sk_le hqe
  have h2 := behind_any t S qe w c0 hl (by omega)
  have h3 := behind_any t S (sk t qe + 1) w c0 hl (by omega)
  have h4 := at_any t S (sk t (sk t qe + 1)) w c0 hl (by have := sk_le1 (t := t) (i := sk t qe + 1) (by omega); omega)
  have h5 := at_any t S (sk t qe) w c0 hl (by omega)
  have hpb := pk_bd t (sk t qe)
  have hcb := pk_bd t (sk t (sk t qe + 1))
  obtain ⟨k, hk⟩ : ∃ k, sk t qe = k := ⟨_, rfl⟩
  rw [hk] at h2 h3 h4 h5 hpb hcb hk1 hw1 hw2 hw3 hw4 ⊢
  obtain ⟨m, hm⟩ : ∃ m, sk t (k + 1) = m := ⟨_, rfl⟩
  rw [hm] at h3 h4 hcb hw3 hw4 ⊢
  rw [show ((k + 1 : Nat) : Int) = (k : Int) + 1 by omega] at h3
  obtain ⟨p, hp⟩ : ∃ p, pk t k = p := ⟨_, rfl⟩
  obtain ⟨c, hc⟩ : ∃ c, pk t m = c := ⟨_, rfl⟩
  rw [hp] at h5 hpb hw1 hw2
  rw [hc] at h4 hcb hw3 hw4
  have h6 := fun w => rb_lo p w hpb.1 hpb.2
  have h7 := letter_any S r p w c2 hpb.1 hpb.2
  have h8 := fun w => rb_lo c w hcb.1 hcb.2
  have hlb := lo_bd hcb.1 hcb.2
  have h9 := fun w => rb_hx (loA c) w hlb.1 hlb.2
  have h10 := fun w => rb_di c w hcb.1 hcb.2
  have h11 := letter_any S r c w c2 hcb.1 hcb.2
  have hq48 : 48 ≤ pk t a ∧ pk t a ≤ 57 := of_decide_eq_true hd
  obtain ⟨pa, hpae⟩ : ∃ p, pk t a = p := ⟨_, rfl⟩
  rw [hpae] at hpa hq48
  have hpa2 : (pa != 46) = true := by rw [bne_iff_ne]; omega
  obtain ⟨d0, ds, hds⟩ : ∃ d ds, ql = d :: ds := by
    cases ql with
    | nil =>
      exfalso
      have h := (di_ch (r := r) hd)
      have hs : sk t a = a := ru_no h.2
      unfold rnF at hq
      rw [hs, rn_yes h.1] at hq
      cases hq
    | cons x xs => exact ⟨x, xs, rfl⟩
  subst hds
  have hdl : ds.length ≤ 100000 := by simp only [List.length_cons] at hqa; omega
  have hml : m ≤ t.size := by
    have : k < t.size := lt_of_ch (r := r) (c := 114) (by show chB r (pk t k) = 114; rw [hp, lo_ch hw2]; exact hw1) (by decide)
    rw [← hm]; exact sk_le this
  have hbi := rbits_any B S a m t (d0 :: ds) r b v l w hS hL hB hl hll hml (by rw [← hm]; exact sk_sk t _) (by simp only [List.length_cons] at hqa ⊢; omega)
  rw [hw1] at h6
  rw [hw2] at h7
  obtain ⟨u, hu⟩ : ∃ u, loA c = u := ⟨_, rfl⟩
  rw [hu] at h8 h9 hw3
  obtain ⟨g, hg⟩ : ∃ g, hxA u = g := ⟨_, rfl⟩
  rw [hg] at h9 hw3
  obtain ⟨RR, hRR⟩ : ∃ R, bkR r t a m (d0 :: ds) l = R := ⟨_, rfl⟩
  rw [hRR] at hbi ⊢
  have H1 := Lib.hid h1
  have H2 := Lib.hid h2
  have H3 := Lib.hid h3
  have H4 := Lib.hid h4
  have H5 := Lib.hid h5
  have H6 := Lib.hid h6
  have H7 := Lib.hid h7
  have H8 := Lib.hid h8
  have H9 := Lib.hid h9
  have H10 := Lib.hid h10
  have H11 := Lib.hid h11
  have HBI := Lib.hid hbi
  clear h1 h2 h3 h4 h5 h6 h7 h8 h9 h10 h11 hbi hRR hS hL hq hd hk hm hp hc hu hg hw1 hw2 hpae hpb hcb hlb
  cases hb1 : bDi c
  · rw [hb1, Bool.false_or] at hw4
    have h10 := H10.out
    have h11 := H11.out
    rw [hb1] at h10
    rw [hw4] at h11
    clear H10 H11
    have H10 := Lib.hid h10
    have H11 := Lib.hid h11
    clear h10 h11 hb1 hw4
    go_enter Tryz.func61, Tryz.ntmps61
    go_wp2_with (first | (go_at_call 97; (with_reducible refine (H1.out).mono ?_); rintro e w' ⟨rfl, rfl⟩) | (go_at_call 98; (with_reducible refine (H2.out).mono ?_); rintro e w' ⟨rfl, rfl⟩) | (go_at_call 98; (with_reducible refine (H3.out).mono ?_); rintro e w' ⟨rfl, rfl⟩) | (go_at_call 60; (with_reducible refine (H4.out).mono ?_); rintro e w' ⟨rfl, rfl⟩) | (go_at_call 60; (with_reducible refine (H5.out).mono ?_); rintro e w' ⟨rfl, rfl⟩) | (go_at_call 69; (with_reducible refine (H6.out _).mono ?_); rintro e w' ⟨rfl, rfl⟩) | (go_at_call 62; (with_reducible refine (H7.out).mono ?_); rintro e w' ⟨rfl, rfl⟩) | (go_at_call 69; (with_reducible refine (H8.out _).mono ?_); rintro e w' ⟨rfl, rfl⟩) | (go_at_call 99; (with_reducible refine (H9.out _).mono ?_); rintro e w' ⟨rfl, rfl⟩) | (go_at_call 59; (with_reducible refine (H10.out _).mono ?_); rintro e w' ⟨rfl, rfl⟩) | (go_at_call 62; (with_reducible refine (H11.out).mono ?_); rintro e w' ⟨rfl, rfl⟩) | (go_at_call 100; (with_reducible refine HBI.out.mono ?_)))
    rintro e w5 ⟨rfl, h5⟩
    go_wp2_with fail
    go_returns
    exact ⟨rfl, h5⟩
  · have h10 := H10.out
    rw [hb1] at h10
    clear H10
    have H10 := Lib.hid h10
    clear h10 hb1 hw4
    go_enter Tryz.func61, Tryz.ntmps61
    go_wp2_with (first | (go_at_call 97; (with_reducible refine (H1.out).mono ?_); rintro e w' ⟨rfl, rfl⟩) | (go_at_call 98; (with_reducible refine (H2.out).mono ?_); rintro e w' ⟨rfl, rfl⟩) | (go_at_call 98; (with_reducible refine (H3.out).mono ?_); rintro e w' ⟨rfl, rfl⟩) | (go_at_call 60; (with_reducible refine (H4.out).mono ?_); rintro e w' ⟨rfl, rfl⟩) | (go_at_call 60; (with_reducible refine (H5.out).mono ?_); rintro e w' ⟨rfl, rfl⟩) | (go_at_call 69; (with_reducible refine (H6.out _).mono ?_); rintro e w' ⟨rfl, rfl⟩) | (go_at_call 62; (with_reducible refine (H7.out).mono ?_); rintro e w' ⟨rfl, rfl⟩) | (go_at_call 69; (with_reducible refine (H8.out _).mono ?_); rintro e w' ⟨rfl, rfl⟩) | (go_at_call 99; (with_reducible refine (H9.out _).mono ?_); rintro e w' ⟨rfl, rfl⟩) | (go_at_call 59; (with_reducible refine (H10.out _).mono ?_); rintro e w' ⟨rfl, rfl⟩) | (go_at_call 62; (with_reducible refine (H11.out).mono ?_); rintro e w' ⟨rfl, rfl⟩) | (go_at_call 100; (with_reducible refine HBI.out.mono ?_)))
    rintro e w5 ⟨rfl, h5⟩
    go_wp2_with fail
    go_returns
    exact ⟨rfl, h5⟩
set_option maxRecDepth 100000 in
set_option maxHeartbeats 8000000 in
theorem rnum_n1p0e0 (B S a : Nat) (t : ByteArray) (r b : Int) (v : Value) (l : List Sy) (w : World) (hS : Rc w S t (a : Int) r v 0 b) (hL : Sl w B v l) (hB : B ≤ S) (hl : t.size ≤ 100000) (hll : l.length ≤ 1000000) (ha : a < t.size) (hd : bDi (pk t a) = true) (ql : List UInt8) (qe : Nat) (hq : rnF bDi bDi0 r t a = (ql, qe)) (hw1 : loA (pk t (sk t qe)) ≠ 114) (hp0 : pk t (sk t qe) ≠ 46) (z : ByteArray) (Z : Nat) (hz : exF r t qe = (z, Z)) (hz0 : z = ⟨#[]⟩) :
    Calls Tryz.prog 61 #[.pointer (some ⟨S, 0, none⟩)] w (RPo B S t w (nuS r a l 3 ⟨ql.toArray⟩ qe)) := by
  have hlt := hS.lt
  have c0 := hS.c0
  have c1 := hS.c1
  have c2 := hS.c2
  have HSR := Lib.hid hS
  have HLR := Lib.hid hL
  have hpa := (pk_in ha).symm
  have hqe : qe ≤ t.size := by have := rnF_end bDi bDi0 r t a (by omega); rw [hq] at this; exact this
  have hqa : ql.length ≤ 100000 := by have := rnF_len bDi bDi0 r t a; rw [hq] at this; simp only at this; omega
  have h1 := rdig_any t S a r w c0 hl (by omega) (ru_no (di_ch (r := r) hd).2)
  rw [hq] at h1
  have hk1 := sk_le hqe
  have h2 := behind_any t S qe w c0 hl (by omega)
  have h3 := behind_any t S (sk t qe + 1) w c0 hl (by omega)
  have h4 := at_any t S (sk t (sk t qe + 1)) w c0 hl (by have := sk_le1 (t := t) (i := sk t qe + 1) (by omega); omega)
  have h5 := at_any t S (sk t qe) w c0 hl (by omega)
  have hpb := pk_bd t (sk t qe)
  have hcb := pk_bd t (sk t (sk t qe + 1))
  obtain ⟨k, hk⟩ : ∃ k, sk t qe = k := ⟨_, rfl⟩
  rw [hk] at h2 h3 h4 h5 hpb hcb hk1 hw1 hp0
  obtain ⟨m, hm⟩ : ∃ m, sk t (k + 1) = m := ⟨_, rfl⟩
  rw [hm] at h3 h4 hcb
  rw [show ((k + 1 : Nat) : Int) = (k : Int) + 1 by omega] at h3
  obtain ⟨p, hp⟩ : ∃ p, pk t k = p := ⟨_, rfl⟩
  obtain ⟨c, hc⟩ : ∃ c, pk t m = c := ⟨_, rfl⟩
  rw [hp] at h5 hpb hw1 hp0
  rw [hc] at h4 hcb
  have h6 := fun w => rb_lo p w hpb.1 hpb.2
  have h7 := letter_any S r p w c2 hpb.1 hpb.2
  have h8 := fun w => rb_lo c w hcb.1 hcb.2
  have hlb := lo_bd hcb.1 hcb.2
  have h9 := fun w => rb_hx (loA c) w hlb.1 hlb.2
  have h10 := fun w => rb_di c w hcb.1 hcb.2
  have h11 := letter_any S r c w c2 hcb.1 hcb.2
  have hq48 : 48 ≤ pk t a ∧ pk t a ≤ 57 := of_decide_eq_true hd
  obtain ⟨pa, hpae⟩ : ∃ p, pk t a = p := ⟨_, rfl⟩
  rw [hpae] at hpa hq48
  have hpa2 : (pa != 46) = true := by rw [bne_iff_ne]; omega
  obtain ⟨d0, ds, hds⟩ : ∃ d ds, ql = d :: ds := by
    cases ql with
    | nil =>
      exfalso
      have h := (di_ch (r := r) hd)
      have hs : sk t a = a := ru_no h.2
      unfold rnF at hq
      rw [hs, rn_yes h.1] at hq
      cases hq
    | cons x xs => exact ⟨x, xs, rfl⟩
  subst hds
  have hdl : ds.length ≤ 100000 := by simp only [List.length_cons] at hqa; omega
  obtain ⟨lp, hlp⟩ : ∃ u, loA p = u := ⟨_, rfl⟩
  rw [hlp] at h6 hw1
  have hw1b : (lp == 114) = false := by rw [beq_eq_false_iff_ne]; exact hw1
  have hp0b : (p == 46) = false := by rw [beq_eq_false_iff_ne]; exact hp0
  have hel : qe ≤ t.size := by omega
  have h15 := rexp_any t S qe r w c0 c2 hl hel
  rw [hz] at h15
  have hzs : z.size ≤ 100002 := by have := exF_len r t qe; rw [hz] at this; simp only at this; omega
  subst hz0
  obtain ⟨RR, hRR⟩ : ∃ R, nuS r a l 3 ⟨(d0 :: ds).toArray⟩ qe = R := ⟨_, rfl⟩
  rw [hRR]
  unfold nuS at hRR
  have hsz : ∀ q : List UInt8, (ByteArray.mk q.toArray).size = q.length := fun q => by simp [ByteArray.size]
  have hXs : (⟨(d0 :: ds).toArray⟩ : ByteArray).size ≤ 1000000 := by
    have e3 : (⟨#[46]⟩ : ByteArray).size = 1 := rfl
    have e4 : (⟨#[]⟩ : ByteArray).size = 0 := rfl
    have e1 := hsz (d0 :: ds)
    simp only [List.length_cons] at e1
    (try simp only [ByteArray.size_append])
    omega
  clear hsz
  have H1 := Lib.hid h1
  have H2 := Lib.hid h2
  have H3 := Lib.hid h3
  have H4 := Lib.hid h4
  have H5 := Lib.hid h5
  have H6 := Lib.hid h6
  have H7 := Lib.hid h7
  have H8 := Lib.hid h8
  have H9 := Lib.hid h9
  have H10 := Lib.hid h10
  have H11 := Lib.hid h11
  have H15 := Lib.hid h15
  clear h1 h2 h3 h4 h5 h6 h7 h8 h9 h10 h11 h15 hS hL hq hk hm hp hc hpae hpb hcb hlb hd hz hlp hw1 hp0
  by_cases h100 : 100 < lc ⟨(d0 :: ds).toArray⟩ 0
  · have hRe : RR = ⟨r, (a : Int), l, (a : Int), 3⟩ := by rw [← hRR]; exact if_pos h100
    subst hRe
    have h16 := fun W => rsize_any ⟨(d0 :: ds).toArray⟩ W hXs
    obtain ⟨n, hn⟩ : ∃ n, lc ⟨(d0 :: ds).toArray⟩ 0 = n := ⟨_, rfl⟩
    rw [hn] at h16 h100
    have h100b : decide ((n : Int) > 100) = true := decide_eq_true (by omega)
    have H16 := Lib.hid h16
    have HFA := Lib.hid (fail_new S t (a : Int) r v b 3 (a : Int) w HSR.out)
    clear h16 hn hRR
    skip
    go_enter Tryz.func61, Tryz.ntmps61
    go_wp2_with (first | (go_at_call 97; (with_reducible refine (H1.out).mono ?_); rintro e w' ⟨rfl, rfl⟩) | (go_at_call 98; (with_reducible refine (H2.out).mono ?_); rintro e w' ⟨rfl, rfl⟩) | (go_at_call 98; (with_reducible refine (H3.out).mono ?_); rintro e w' ⟨rfl, rfl⟩) | (go_at_call 60; (with_reducible refine (H4.out).mono ?_); rintro e w' ⟨rfl, rfl⟩) | (go_at_call 60; (with_reducible refine (H5.out).mono ?_); rintro e w' ⟨rfl, rfl⟩) | (go_at_call 69; (with_reducible refine (H6.out _).mono ?_); rintro e w' ⟨rfl, rfl⟩) | (go_at_call 62; (with_reducible refine (H7.out).mono ?_); rintro e w' ⟨rfl, rfl⟩) | (go_at_call 69; (with_reducible refine (H8.out _).mono ?_); rintro e w' ⟨rfl, rfl⟩) | (go_at_call 99; (with_reducible refine (H9.out _).mono ?_); rintro e w' ⟨rfl, rfl⟩) | (go_at_call 59; (with_reducible refine (H10.out _).mono ?_); rintro e w' ⟨rfl, rfl⟩) | (go_at_call 62; (with_reducible refine (H11.out).mono ?_); rintro e w' ⟨rfl, rfl⟩) | (go_at_call 101; (with_reducible refine (H15.out).mono ?_); rintro e w' ⟨rfl, rfl⟩) | (go_at_call 102; (with_reducible refine (H16.out _).mono ?_); rintro e w' ⟨rfl, rfl⟩) | (go_at_call 54; (with_reducible refine HFA.out.mono ?_); (rintro e5 w5 ⟨rfl, hS5, hg5⟩); (have HADD := Lib.hid (radd_any B S t (a : Int) r v 3 (a : Int) 3 (a : Int) (qe : Int) ⟨(d0 :: ds).toArray⟩ l w5 hS5 (HSR.out.slgb HLR.out hg5) hB hll))) | (go_at_call 58; (with_reducible refine HADD.out.mono ?_); (rintro e6 w6 ⟨rfl, ⟨v6, hS6, hL6⟩, hb6, _⟩)))
    go_returns
    exact ⟨rfl, ⟨_, _, _, _, v6, _, hS6, hL6, (fun h => absurd h (show ¬ ((3 : Int) = 0) by decide)), (fun _ => ⟨rfl, rfl⟩)⟩, (hg5.below hB (by omega)).trans hb6⟩
  · have hRe : RR = ⟨r, (qe : Int), l ++ [(3, ⟨(d0 :: ds).toArray⟩, (a : Int))], 0, 0⟩ := by rw [← hRR]; exact if_neg h100
    subst hRe
    have h16 := fun W => rsize_any ⟨(d0 :: ds).toArray⟩ W hXs
    obtain ⟨n, hn⟩ : ∃ n, lc ⟨(d0 :: ds).toArray⟩ 0 = n := ⟨_, rfl⟩
    rw [hn] at h16 h100
    have h100b : decide ((n : Int) > 100) = false := decide_eq_false (by omega)
    have H16 := Lib.hid h16
    have HADD := Lib.hid (radd_any B S t (a : Int) r v 0 b 3 (a : Int) (qe : Int) ⟨(d0 :: ds).toArray⟩ l w HSR.out HLR.out hB hll)
    clear h16 hn hRR
    skip
    go_enter Tryz.func61, Tryz.ntmps61
    go_wp2_with (first | (go_at_call 97; (with_reducible refine (H1.out).mono ?_); rintro e w' ⟨rfl, rfl⟩) | (go_at_call 98; (with_reducible refine (H2.out).mono ?_); rintro e w' ⟨rfl, rfl⟩) | (go_at_call 98; (with_reducible refine (H3.out).mono ?_); rintro e w' ⟨rfl, rfl⟩) | (go_at_call 60; (with_reducible refine (H4.out).mono ?_); rintro e w' ⟨rfl, rfl⟩) | (go_at_call 60; (with_reducible refine (H5.out).mono ?_); rintro e w' ⟨rfl, rfl⟩) | (go_at_call 69; (with_reducible refine (H6.out _).mono ?_); rintro e w' ⟨rfl, rfl⟩) | (go_at_call 62; (with_reducible refine (H7.out).mono ?_); rintro e w' ⟨rfl, rfl⟩) | (go_at_call 69; (with_reducible refine (H8.out _).mono ?_); rintro e w' ⟨rfl, rfl⟩) | (go_at_call 99; (with_reducible refine (H9.out _).mono ?_); rintro e w' ⟨rfl, rfl⟩) | (go_at_call 59; (with_reducible refine (H10.out _).mono ?_); rintro e w' ⟨rfl, rfl⟩) | (go_at_call 62; (with_reducible refine (H11.out).mono ?_); rintro e w' ⟨rfl, rfl⟩) | (go_at_call 101; (with_reducible refine (H15.out).mono ?_); rintro e w' ⟨rfl, rfl⟩) | (go_at_call 102; (with_reducible refine (H16.out _).mono ?_); rintro e w' ⟨rfl, rfl⟩) | (go_at_call 58; (with_reducible refine HADD.out.mono ?_); (rintro e6 w6 ⟨rfl, ⟨v6, hS6, hL6⟩, hb6, _⟩)))
    go_returns
    exact ⟨rfl, ⟨_, _, _, _, v6, _, hS6, hL6, (fun _ => ⟨rfl, rfl, rfl, rfl⟩), (fun h => absurd rfl h)⟩, hb6⟩
set_option maxRecDepth 100000 in
set_option maxHeartbeats 8000000 in
theorem rnum_n1p0e1 (B S a : Nat) (t : ByteArray) (r b : Int) (v : Value) (l : List Sy) (w : World) (hS : Rc w S t (a : Int) r v 0 b) (hL : Sl w B v l) (hB : B ≤ S) (hl : t.size ≤ 100000) (hll : l.length ≤ 1000000) (ha : a < t.size) (hd : bDi (pk t a) = true) (ql : List UInt8) (qe : Nat) (hq : rnF bDi bDi0 r t a = (ql, qe)) (hw1 : loA (pk t (sk t qe)) ≠ 114) (hp0 : pk t (sk t qe) ≠ 46) (z : ByteArray) (Z : Nat) (hz : exF r t qe = (z, Z)) (hz0 : z ≠ ⟨#[]⟩) :
    Calls Tryz.prog 61 #[.pointer (some ⟨S, 0, none⟩)] w (RPo B S t w (nuS r a l 4 (⟨ql.toArray⟩ ++ z) Z)) := by
  have hlt := hS.lt
  have c0 := hS.c0
  have c1 := hS.c1
  have c2 := hS.c2
  have HSR := Lib.hid hS
  have HLR := Lib.hid hL
  have hpa := (pk_in ha).symm
  have hqe : qe ≤ t.size := by have := rnF_end bDi bDi0 r t a (by omega); rw [hq] at this; exact this
  have hqa : ql.length ≤ 100000 := by have := rnF_len bDi bDi0 r t a; rw [hq] at this; simp only at this; omega
  have h1 := rdig_any t S a r w c0 hl (by omega) (ru_no (di_ch (r := r) hd).2)
  rw [hq] at h1
  have hk1 := sk_le hqe
  have h2 := behind_any t S qe w c0 hl (by omega)
  have h3 := behind_any t S (sk t qe + 1) w c0 hl (by omega)
  have h4 := at_any t S (sk t (sk t qe + 1)) w c0 hl (by have := sk_le1 (t := t) (i := sk t qe + 1) (by omega); omega)
  have h5 := at_any t S (sk t qe) w c0 hl (by omega)
  have hpb := pk_bd t (sk t qe)
  have hcb := pk_bd t (sk t (sk t qe + 1))
  obtain ⟨k, hk⟩ : ∃ k, sk t qe = k := ⟨_, rfl⟩
  rw [hk] at h2 h3 h4 h5 hpb hcb hk1 hw1 hp0
  obtain ⟨m, hm⟩ : ∃ m, sk t (k + 1) = m := ⟨_, rfl⟩
  rw [hm] at h3 h4 hcb
  rw [show ((k + 1 : Nat) : Int) = (k : Int) + 1 by omega] at h3
  obtain ⟨p, hp⟩ : ∃ p, pk t k = p := ⟨_, rfl⟩
  obtain ⟨c, hc⟩ : ∃ c, pk t m = c := ⟨_, rfl⟩
  rw [hp] at h5 hpb hw1 hp0
  rw [hc] at h4 hcb
  have h6 := fun w => rb_lo p w hpb.1 hpb.2
  have h7 := letter_any S r p w c2 hpb.1 hpb.2
  have h8 := fun w => rb_lo c w hcb.1 hcb.2
  have hlb := lo_bd hcb.1 hcb.2
  have h9 := fun w => rb_hx (loA c) w hlb.1 hlb.2
  have h10 := fun w => rb_di c w hcb.1 hcb.2
  have h11 := letter_any S r c w c2 hcb.1 hcb.2
  have hq48 : 48 ≤ pk t a ∧ pk t a ≤ 57 := of_decide_eq_true hd
  obtain ⟨pa, hpae⟩ : ∃ p, pk t a = p := ⟨_, rfl⟩
  rw [hpae] at hpa hq48
  have hpa2 : (pa != 46) = true := by rw [bne_iff_ne]; omega
  obtain ⟨d0, ds, hds⟩ : ∃ d ds, ql = d :: ds := by
    cases ql with
    | nil =>
      exfalso
      have h := (di_ch (r := r) hd)
      have hs : sk t a = a := ru_no h.2
      unfold rnF at hq
      rw [hs, rn_yes h.1] at hq
      cases hq
    | cons x xs => exact ⟨x, xs, rfl⟩
  subst hds
  have hdl : ds.length ≤ 100000 := by simp only [List.length_cons] at hqa; omega
  obtain ⟨lp, hlp⟩ : ∃ u, loA p = u := ⟨_, rfl⟩
  rw [hlp] at h6 hw1
  have hw1b : (lp == 114) = false := by rw [beq_eq_false_iff_ne]; exact hw1
  have hp0b : (p == 46) = false := by rw [beq_eq_false_iff_ne]; exact hp0
  have hel : qe ≤ t.size := by omega
  have h15 := rexp_any t S qe r w c0 c2 hl hel
  rw [hz] at h15
  have hzs : z.size ≤ 100002 := by have := exF_len r t qe; rw [hz] at this; simp only at this; omega
  have hzf : z.toList.isEmpty = false := full_bytes hz0
  obtain ⟨RR, hRR⟩ : ∃ R, nuS r a l 4 (⟨(d0 :: ds).toArray⟩ ++ z) Z = R := ⟨_, rfl⟩
  rw [hRR]
  unfold nuS at hRR
  have hsz : ∀ q : List UInt8, (ByteArray.mk q.toArray).size = q.length := fun q => by simp [ByteArray.size]
  have hXs : ((⟨(d0 :: ds).toArray⟩ ++ z) : ByteArray).size ≤ 1000000 := by
    have e3 : (⟨#[46]⟩ : ByteArray).size = 1 := rfl
    have e4 : (⟨#[]⟩ : ByteArray).size = 0 := rfl
    have e1 := hsz (d0 :: ds)
    simp only [List.length_cons] at e1
    (try simp only [ByteArray.size_append])
    omega
  clear hsz
  have H1 := Lib.hid h1
  have H2 := Lib.hid h2
  have H3 := Lib.hid h3
  have H4 := Lib.hid h4
  have H5 := Lib.hid h5
  have H6 := Lib.hid h6
  have H7 := Lib.hid h7
  have H8 := Lib.hid h8
  have H9 := Lib.hid h9
  have H10 := Lib.hid h10
  have H11 := Lib.hid h11
  have H15 := Lib.hid h15
  clear h1 h2 h3 h4 h5 h6 h7 h8 h9 h10 h11 h15 hS hL hq hk hm hp hc hpae hpb hcb hlb hd hz hlp hw1 hz0 hp0
  by_cases h100 : 100 < lc (⟨(d0 :: ds).toArray⟩ ++ z) 0
  · have hRe : RR = ⟨r, (a : Int), l, (a : Int), 3⟩ := by rw [← hRR]; exact if_pos h100
    subst hRe
    have h16 := fun W => rsize_any (⟨(d0 :: ds).toArray⟩ ++ z) W hXs
    obtain ⟨n, hn⟩ : ∃ n, lc (⟨(d0 :: ds).toArray⟩ ++ z) 0 = n := ⟨_, rfl⟩
    rw [hn] at h16 h100
    have h100b : decide ((n : Int) > 100) = true := decide_eq_true (by omega)
    have H16 := Lib.hid h16
    have HFA := Lib.hid (fail_new S t (a : Int) r v b 3 (a : Int) w HSR.out)
    clear h16 hn hRR
    skip
    go_enter Tryz.func61, Tryz.ntmps61
    go_wp2_with (first | (go_at_call 97; (with_reducible refine (H1.out).mono ?_); rintro e w' ⟨rfl, rfl⟩) | (go_at_call 98; (with_reducible refine (H2.out).mono ?_); rintro e w' ⟨rfl, rfl⟩) | (go_at_call 98; (with_reducible refine (H3.out).mono ?_); rintro e w' ⟨rfl, rfl⟩) | (go_at_call 60; (with_reducible refine (H4.out).mono ?_); rintro e w' ⟨rfl, rfl⟩) | (go_at_call 60; (with_reducible refine (H5.out).mono ?_); rintro e w' ⟨rfl, rfl⟩) | (go_at_call 69; (with_reducible refine (H6.out _).mono ?_); rintro e w' ⟨rfl, rfl⟩) | (go_at_call 62; (with_reducible refine (H7.out).mono ?_); rintro e w' ⟨rfl, rfl⟩) | (go_at_call 69; (with_reducible refine (H8.out _).mono ?_); rintro e w' ⟨rfl, rfl⟩) | (go_at_call 99; (with_reducible refine (H9.out _).mono ?_); rintro e w' ⟨rfl, rfl⟩) | (go_at_call 59; (with_reducible refine (H10.out _).mono ?_); rintro e w' ⟨rfl, rfl⟩) | (go_at_call 62; (with_reducible refine (H11.out).mono ?_); rintro e w' ⟨rfl, rfl⟩) | (go_at_call 101; (with_reducible refine (H15.out).mono ?_); rintro e w' ⟨rfl, rfl⟩) | (go_at_call 102; (with_reducible refine (H16.out _).mono ?_); rintro e w' ⟨rfl, rfl⟩) | (go_at_call 54; (with_reducible refine HFA.out.mono ?_); (rintro e5 w5 ⟨rfl, hS5, hg5⟩); (have HADD := Lib.hid (radd_any B S t (a : Int) r v 3 (a : Int) 4 (a : Int) (Z : Int) (⟨(d0 :: ds).toArray⟩ ++ z) l w5 hS5 (HSR.out.slgb HLR.out hg5) hB hll))) | (go_at_call 58; (with_reducible refine HADD.out.mono ?_); (rintro e6 w6 ⟨rfl, ⟨v6, hS6, hL6⟩, hb6, _⟩)))
    go_returns
    exact ⟨rfl, ⟨_, _, _, _, v6, _, hS6, hL6, (fun h => absurd h (show ¬ ((3 : Int) = 0) by decide)), (fun _ => ⟨rfl, rfl⟩)⟩, (hg5.below hB (by omega)).trans hb6⟩
  · have hRe : RR = ⟨r, (Z : Int), l ++ [(4, (⟨(d0 :: ds).toArray⟩ ++ z), (a : Int))], 0, 0⟩ := by rw [← hRR]; exact if_neg h100
    subst hRe
    have h16 := fun W => rsize_any (⟨(d0 :: ds).toArray⟩ ++ z) W hXs
    obtain ⟨n, hn⟩ : ∃ n, lc (⟨(d0 :: ds).toArray⟩ ++ z) 0 = n := ⟨_, rfl⟩
    rw [hn] at h16 h100
    have h100b : decide ((n : Int) > 100) = false := decide_eq_false (by omega)
    have H16 := Lib.hid h16
    have HADD := Lib.hid (radd_any B S t (a : Int) r v 0 b 4 (a : Int) (Z : Int) (⟨(d0 :: ds).toArray⟩ ++ z) l w HSR.out HLR.out hB hll)
    clear h16 hn hRR
    skip
    go_enter Tryz.func61, Tryz.ntmps61
    go_wp2_with (first | (go_at_call 97; (with_reducible refine (H1.out).mono ?_); rintro e w' ⟨rfl, rfl⟩) | (go_at_call 98; (with_reducible refine (H2.out).mono ?_); rintro e w' ⟨rfl, rfl⟩) | (go_at_call 98; (with_reducible refine (H3.out).mono ?_); rintro e w' ⟨rfl, rfl⟩) | (go_at_call 60; (with_reducible refine (H4.out).mono ?_); rintro e w' ⟨rfl, rfl⟩) | (go_at_call 60; (with_reducible refine (H5.out).mono ?_); rintro e w' ⟨rfl, rfl⟩) | (go_at_call 69; (with_reducible refine (H6.out _).mono ?_); rintro e w' ⟨rfl, rfl⟩) | (go_at_call 62; (with_reducible refine (H7.out).mono ?_); rintro e w' ⟨rfl, rfl⟩) | (go_at_call 69; (with_reducible refine (H8.out _).mono ?_); rintro e w' ⟨rfl, rfl⟩) | (go_at_call 99; (with_reducible refine (H9.out _).mono ?_); rintro e w' ⟨rfl, rfl⟩) | (go_at_call 59; (with_reducible refine (H10.out _).mono ?_); rintro e w' ⟨rfl, rfl⟩) | (go_at_call 62; (with_reducible refine (H11.out).mono ?_); rintro e w' ⟨rfl, rfl⟩) | (go_at_call 101; (with_reducible refine (H15.out).mono ?_); rintro e w' ⟨rfl, rfl⟩) | (go_at_call 102; (with_reducible refine (H16.out _).mono ?_); rintro e w' ⟨rfl, rfl⟩) | (go_at_call 58; (with_reducible refine HADD.out.mono ?_); (rintro e6 w6 ⟨rfl, ⟨v6, hS6, hL6⟩, hb6, _⟩)))
    go_returns
    exact ⟨rfl, ⟨_, _, _, _, v6, _, hS6, hL6, (fun _ => ⟨rfl, rfl, rfl, rfl⟩), (fun h => absurd rfl h)⟩, hb6⟩
set_option maxRecDepth 100000 in
set_option maxHeartbeats 8000000 in
theorem rnum_n1p1e0 (B S a : Nat) (t : ByteArray) (r b : Int) (v : Value) (l : List Sy) (w : World) (hS : Rc w S t (a : Int) r v 0 b) (hL : Sl w B v l) (hB : B ≤ S) (hl : t.size ≤ 100000) (hll : l.length ≤ 1000000) (ha : a < t.size) (hd : bDi (pk t a) = true) (ql : List UInt8) (qe : Nat) (hq : rnF bDi bDi0 r t a = (ql, qe)) (hw1 : loA (pk t (sk t qe)) ≠ 114) (hp0 : pk t (sk t qe) = 46) (hp1 : bDi (pk t ((sk t qe) + 1)) = false) (z : ByteArray) (Z : Nat) (hz : exF r t qe = (z, Z)) (hz0 : z = ⟨#[]⟩) :
    Calls Tryz.prog 61 #[.pointer (some ⟨S, 0, none⟩)] w (RPo B S t w (nuS r a l 3 ⟨ql.toArray⟩ qe)) := by
  have hlt := hS.lt
  have c0 := hS.c0
  have c1 := hS.c1
  have c2 := hS.c2
  have HSR := Lib.hid hS
  have HLR := Lib.hid hL
  have hpa := (pk_in ha).symm
  have hqe : qe ≤ t.size := by have := rnF_end bDi bDi0 r t a (by omega); rw [hq] at this; exact this
  have hqa : ql.length ≤ 100000 := by have := rnF_len bDi bDi0 r t a; rw [hq] at this; simp only at this; omega
  have h1 := rdig_any t S a r w c0 hl (by omega) (ru_no (di_ch (r := r) hd).2)
  rw [hq] at h1
  have hk1 := sk_le hqe
  have h2 := behind_any t S qe w c0 hl (by omega)
  have h3 := behind_any t S (sk t qe + 1) w c0 hl (by omega)
  have h4 := at_any t S (sk t (sk t qe + 1)) w c0 hl (by have := sk_le1 (t := t) (i := sk t qe + 1) (by omega); omega)
  have h5 := at_any t S (sk t qe) w c0 hl (by omega)
  have hpb := pk_bd t (sk t qe)
  have hcb := pk_bd t (sk t (sk t qe + 1))
  obtain ⟨k, hk⟩ : ∃ k, sk t qe = k := ⟨_, rfl⟩
  rw [hk] at h2 h3 h4 h5 hpb hcb hk1 hw1 hp0 hp1
  obtain ⟨m, hm⟩ : ∃ m, sk t (k + 1) = m := ⟨_, rfl⟩
  rw [hm] at h3 h4 hcb
  rw [show ((k + 1 : Nat) : Int) = (k : Int) + 1 by omega] at h3
  obtain ⟨p, hp⟩ : ∃ p, pk t k = p := ⟨_, rfl⟩
  obtain ⟨c, hc⟩ : ∃ c, pk t m = c := ⟨_, rfl⟩
  rw [hp] at h5 hpb hw1 hp0
  rw [hc] at h4 hcb
  have h6 := fun w => rb_lo p w hpb.1 hpb.2
  have h7 := letter_any S r p w c2 hpb.1 hpb.2
  have h8 := fun w => rb_lo c w hcb.1 hcb.2
  have hlb := lo_bd hcb.1 hcb.2
  have h9 := fun w => rb_hx (loA c) w hlb.1 hlb.2
  have h10 := fun w => rb_di c w hcb.1 hcb.2
  have h11 := letter_any S r c w c2 hcb.1 hcb.2
  have hq48 : 48 ≤ pk t a ∧ pk t a ≤ 57 := of_decide_eq_true hd
  obtain ⟨pa, hpae⟩ : ∃ p, pk t a = p := ⟨_, rfl⟩
  rw [hpae] at hpa hq48
  have hpa2 : (pa != 46) = true := by rw [bne_iff_ne]; omega
  obtain ⟨d0, ds, hds⟩ : ∃ d ds, ql = d :: ds := by
    cases ql with
    | nil =>
      exfalso
      have h := (di_ch (r := r) hd)
      have hs : sk t a = a := ru_no h.2
      unfold rnF at hq
      rw [hs, rn_yes h.1] at hq
      cases hq
    | cons x xs => exact ⟨x, xs, rfl⟩
  subst hds
  have hdl : ds.length ≤ 100000 := by simp only [List.length_cons] at hqa; omega
  obtain ⟨lp, hlp⟩ : ∃ u, loA p = u := ⟨_, rfl⟩
  rw [hlp] at h6 hw1
  have hw1b : (lp == 114) = false := by rw [beq_eq_false_iff_ne]; exact hw1
  have h12 := at_any t S (k + 1) w c0 hl (by omega)
  rw [show ((k + 1 : Nat) : Int) = (k : Int) + 1 by omega] at h12
  have hsb := pk_bd t (k + 1)
  obtain ⟨sb, hsbe⟩ : ∃ s, pk t (k + 1) = s := ⟨_, rfl⟩
  rw [hsbe] at h12 hsb hp1
  have h13 := fun w => rb_di sb w hsb.1 hsb.2
  rw [hp1] at h13
  have hel : qe ≤ t.size := by omega
  have h15 := rexp_any t S qe r w c0 c2 hl hel
  rw [hz] at h15
  have hzs : z.size ≤ 100002 := by have := exF_len r t qe; rw [hz] at this; simp only at this; omega
  subst hz0
  obtain ⟨RR, hRR⟩ : ∃ R, nuS r a l 3 ⟨(d0 :: ds).toArray⟩ qe = R := ⟨_, rfl⟩
  rw [hRR]
  unfold nuS at hRR
  have hsz : ∀ q : List UInt8, (ByteArray.mk q.toArray).size = q.length := fun q => by simp [ByteArray.size]
  have hXs : (⟨(d0 :: ds).toArray⟩ : ByteArray).size ≤ 1000000 := by
    have e3 : (⟨#[46]⟩ : ByteArray).size = 1 := rfl
    have e4 : (⟨#[]⟩ : ByteArray).size = 0 := rfl
    have e1 := hsz (d0 :: ds)
    simp only [List.length_cons] at e1
    (try simp only [ByteArray.size_append])
    omega
  clear hsz
  have H1 := Lib.hid h1
  have H2 := Lib.hid h2
  have H3 := Lib.hid h3
  have H4 := Lib.hid h4
  have H5 := Lib.hid h5
  have H6 := Lib.hid h6
  have H7 := Lib.hid h7
  have H8 := Lib.hid h8
  have H9 := Lib.hid h9
  have H10 := Lib.hid h10
  have H11 := Lib.hid h11
  have H12 := Lib.hid h12
  have H13 := Lib.hid h13
  have H15 := Lib.hid h15
  clear h1 h2 h3 h4 h5 h6 h7 h8 h9 h10 h11 h12 h13 h15 hS hL hq hk hm hp hc hpae hpb hcb hlb hd hsb hsbe hp1 hz hlp hw1
  subst hp0
  by_cases h100 : 100 < lc ⟨(d0 :: ds).toArray⟩ 0
  · have hRe : RR = ⟨r, (a : Int), l, (a : Int), 3⟩ := by rw [← hRR]; exact if_pos h100
    subst hRe
    have h16 := fun W => rsize_any ⟨(d0 :: ds).toArray⟩ W hXs
    obtain ⟨n, hn⟩ : ∃ n, lc ⟨(d0 :: ds).toArray⟩ 0 = n := ⟨_, rfl⟩
    rw [hn] at h16 h100
    have h100b : decide ((n : Int) > 100) = true := decide_eq_true (by omega)
    have H16 := Lib.hid h16
    have HFA := Lib.hid (fail_new S t (a : Int) r v b 3 (a : Int) w HSR.out)
    clear h16 hn hRR
    skip
    go_enter Tryz.func61, Tryz.ntmps61
    go_wp2_with (first | (go_at_call 97; (with_reducible refine (H1.out).mono ?_); rintro e w' ⟨rfl, rfl⟩) | (go_at_call 98; (with_reducible refine (H2.out).mono ?_); rintro e w' ⟨rfl, rfl⟩) | (go_at_call 98; (with_reducible refine (H3.out).mono ?_); rintro e w' ⟨rfl, rfl⟩) | (go_at_call 60; (with_reducible refine (H4.out).mono ?_); rintro e w' ⟨rfl, rfl⟩) | (go_at_call 60; (with_reducible refine (H5.out).mono ?_); rintro e w' ⟨rfl, rfl⟩) | (go_at_call 69; (with_reducible refine (H6.out _).mono ?_); rintro e w' ⟨rfl, rfl⟩) | (go_at_call 62; (with_reducible refine (H7.out).mono ?_); rintro e w' ⟨rfl, rfl⟩) | (go_at_call 69; (with_reducible refine (H8.out _).mono ?_); rintro e w' ⟨rfl, rfl⟩) | (go_at_call 99; (with_reducible refine (H9.out _).mono ?_); rintro e w' ⟨rfl, rfl⟩) | (go_at_call 59; (with_reducible refine (H10.out _).mono ?_); rintro e w' ⟨rfl, rfl⟩) | (go_at_call 62; (with_reducible refine (H11.out).mono ?_); rintro e w' ⟨rfl, rfl⟩) | (go_at_call 60; (with_reducible refine (H12.out).mono ?_); rintro e w' ⟨rfl, rfl⟩) | (go_at_call 59; (with_reducible refine (H13.out _).mono ?_); rintro e w' ⟨rfl, rfl⟩) | (go_at_call 101; (with_reducible refine (H15.out).mono ?_); rintro e w' ⟨rfl, rfl⟩) | (go_at_call 102; (with_reducible refine (H16.out _).mono ?_); rintro e w' ⟨rfl, rfl⟩) | (go_at_call 54; (with_reducible refine HFA.out.mono ?_); (rintro e5 w5 ⟨rfl, hS5, hg5⟩); (have HADD := Lib.hid (radd_any B S t (a : Int) r v 3 (a : Int) 3 (a : Int) (qe : Int) ⟨(d0 :: ds).toArray⟩ l w5 hS5 (HSR.out.slgb HLR.out hg5) hB hll))) | (go_at_call 58; (with_reducible refine HADD.out.mono ?_); (rintro e6 w6 ⟨rfl, ⟨v6, hS6, hL6⟩, hb6, _⟩)))
    go_returns
    exact ⟨rfl, ⟨_, _, _, _, v6, _, hS6, hL6, (fun h => absurd h (show ¬ ((3 : Int) = 0) by decide)), (fun _ => ⟨rfl, rfl⟩)⟩, (hg5.below hB (by omega)).trans hb6⟩
  · have hRe : RR = ⟨r, (qe : Int), l ++ [(3, ⟨(d0 :: ds).toArray⟩, (a : Int))], 0, 0⟩ := by rw [← hRR]; exact if_neg h100
    subst hRe
    have h16 := fun W => rsize_any ⟨(d0 :: ds).toArray⟩ W hXs
    obtain ⟨n, hn⟩ : ∃ n, lc ⟨(d0 :: ds).toArray⟩ 0 = n := ⟨_, rfl⟩
    rw [hn] at h16 h100
    have h100b : decide ((n : Int) > 100) = false := decide_eq_false (by omega)
    have H16 := Lib.hid h16
    have HADD := Lib.hid (radd_any B S t (a : Int) r v 0 b 3 (a : Int) (qe : Int) ⟨(d0 :: ds).toArray⟩ l w HSR.out HLR.out hB hll)
    clear h16 hn hRR
    skip
    go_enter Tryz.func61, Tryz.ntmps61
    go_wp2_with (first | (go_at_call 97; (with_reducible refine (H1.out).mono ?_); rintro e w' ⟨rfl, rfl⟩) | (go_at_call 98; (with_reducible refine (H2.out).mono ?_); rintro e w' ⟨rfl, rfl⟩) | (go_at_call 98; (with_reducible refine (H3.out).mono ?_); rintro e w' ⟨rfl, rfl⟩) | (go_at_call 60; (with_reducible refine (H4.out).mono ?_); rintro e w' ⟨rfl, rfl⟩) | (go_at_call 60; (with_reducible refine (H5.out).mono ?_); rintro e w' ⟨rfl, rfl⟩) | (go_at_call 69; (with_reducible refine (H6.out _).mono ?_); rintro e w' ⟨rfl, rfl⟩) | (go_at_call 62; (with_reducible refine (H7.out).mono ?_); rintro e w' ⟨rfl, rfl⟩) | (go_at_call 69; (with_reducible refine (H8.out _).mono ?_); rintro e w' ⟨rfl, rfl⟩) | (go_at_call 99; (with_reducible refine (H9.out _).mono ?_); rintro e w' ⟨rfl, rfl⟩) | (go_at_call 59; (with_reducible refine (H10.out _).mono ?_); rintro e w' ⟨rfl, rfl⟩) | (go_at_call 62; (with_reducible refine (H11.out).mono ?_); rintro e w' ⟨rfl, rfl⟩) | (go_at_call 60; (with_reducible refine (H12.out).mono ?_); rintro e w' ⟨rfl, rfl⟩) | (go_at_call 59; (with_reducible refine (H13.out _).mono ?_); rintro e w' ⟨rfl, rfl⟩) | (go_at_call 101; (with_reducible refine (H15.out).mono ?_); rintro e w' ⟨rfl, rfl⟩) | (go_at_call 102; (with_reducible refine (H16.out _).mono ?_); rintro e w' ⟨rfl, rfl⟩) | (go_at_call 58; (with_reducible refine HADD.out.mono ?_); (rintro e6 w6 ⟨rfl, ⟨v6, hS6, hL6⟩, hb6, _⟩)))
    go_returns
    exact ⟨rfl, ⟨_, _, _, _, v6, _, hS6, hL6, (fun _ => ⟨rfl, rfl, rfl, rfl⟩), (fun h => absurd rfl h)⟩, hb6⟩
set_option maxRecDepth 100000 in
set_option maxHeartbeats 8000000 in
theorem rnum_n1p1e1 (B S a : Nat) (t : ByteArray) (r b : Int) (v : Value) (l : List Sy) (w : World) (hS : Rc w S t (a : Int) r v 0 b) (hL : Sl w B v l) (hB : B ≤ S) (hl : t.size ≤ 100000) (hll : l.length ≤ 1000000) (ha : a < t.size) (hd : bDi (pk t a) = true) (ql : List UInt8) (qe : Nat) (hq : rnF bDi bDi0 r t a = (ql, qe)) (hw1 : loA (pk t (sk t qe)) ≠ 114) (hp0 : pk t (sk t qe) = 46) (hp1 : bDi (pk t ((sk t qe) + 1)) = false) (z : ByteArray) (Z : Nat) (hz : exF r t qe = (z, Z)) (hz0 : z ≠ ⟨#[]⟩) :
    Calls Tryz.prog 61 #[.pointer (some ⟨S, 0, none⟩)] w (RPo B S t w (nuS r a l 4 (⟨ql.toArray⟩ ++ z) Z)) := by
  have hlt := hS.lt
  have c0 := hS.c0
  have c1 := hS.c1
  have c2 := hS.c2
  have HSR := Lib.hid hS
  have HLR := Lib.hid hL
  have hpa := (pk_in ha).symm
  have hqe : qe ≤ t.size := by have := rnF_end bDi bDi0 r t a (by omega); rw [hq] at this; exact this
  have hqa : ql.length ≤ 100000 := by have := rnF_len bDi bDi0 r t a; rw [hq] at this; simp only at this; omega
  have h1 := rdig_any t S a r w c0 hl (by omega) (ru_no (di_ch (r := r) hd).2)
  rw [hq] at h1
  have hk1 := sk_le hqe
  have h2 := behind_any t S qe w c0 hl (by omega)
  have h3 := behind_any t S (sk t qe + 1) w c0 hl (by omega)
  have h4 := at_any t S (sk t (sk t qe + 1)) w c0 hl (by have := sk_le1 (t := t) (i := sk t qe + 1) (by omega); omega)
  have h5 := at_any t S (sk t qe) w c0 hl (by omega)
  have hpb := pk_bd t (sk t qe)
  have hcb := pk_bd t (sk t (sk t qe + 1))
  obtain ⟨k, hk⟩ : ∃ k, sk t qe = k := ⟨_, rfl⟩
  rw [hk] at h2 h3 h4 h5 hpb hcb hk1 hw1 hp0 hp1
  obtain ⟨m, hm⟩ : ∃ m, sk t (k + 1) = m := ⟨_, rfl⟩
  rw [hm] at h3 h4 hcb
  rw [show ((k + 1 : Nat) : Int) = (k : Int) + 1 by omega] at h3
  obtain ⟨p, hp⟩ : ∃ p, pk t k = p := ⟨_, rfl⟩
  obtain ⟨c, hc⟩ : ∃ c, pk t m = c := ⟨_, rfl⟩
  rw [hp] at h5 hpb hw1 hp0
  rw [hc] at h4 hcb
  have h6 := fun w => rb_lo p w hpb.1 hpb.2
  have h7 := letter_any S r p w c2 hpb.1 hpb.2
  have h8 := fun w => rb_lo c w hcb.1 hcb.2
  have hlb := lo_bd hcb.1 hcb.2
  have h9 := fun w => rb_hx (loA c) w hlb.1 hlb.2
  have h10 := fun w => rb_di c w hcb.1 hcb.2
  have h11 := letter_any S r c w c2 hcb.1 hcb.2
  have hq48 : 48 ≤ pk t a ∧ pk t a ≤ 57 := of_decide_eq_true hd
  obtain ⟨pa, hpae⟩ : ∃ p, pk t a = p := ⟨_, rfl⟩
  rw [hpae] at hpa hq48
  have hpa2 : (pa != 46) = true := by rw [bne_iff_ne]; omega
  obtain ⟨d0, ds, hds⟩ : ∃ d ds, ql = d :: ds := by
    cases ql with
    | nil =>
      exfalso
      have h := (di_ch (r := r) hd)
      have hs : sk t a = a := ru_no h.2
      unfold rnF at hq
      rw [hs, rn_yes h.1] at hq
      cases hq
    | cons x xs => exact ⟨x, xs, rfl⟩
  subst hds
  have hdl : ds.length ≤ 100000 := by simp only [List.length_cons] at hqa; omega
  obtain ⟨lp, hlp⟩ : ∃ u, loA p = u := ⟨_, rfl⟩
  rw [hlp] at h6 hw1
  have hw1b : (lp == 114) = false := by rw [beq_eq_false_iff_ne]; exact hw1
  have h12 := at_any t S (k + 1) w c0 hl (by omega)
  rw [show ((k + 1 : Nat) : Int) = (k : Int) + 1 by omega] at h12
  have hsb := pk_bd t (k + 1)
  obtain ⟨sb, hsbe⟩ : ∃ s, pk t (k + 1) = s := ⟨_, rfl⟩
  rw [hsbe] at h12 hsb hp1
  have h13 := fun w => rb_di sb w hsb.1 hsb.2
  rw [hp1] at h13
  have hel : qe ≤ t.size := by omega
  have h15 := rexp_any t S qe r w c0 c2 hl hel
  rw [hz] at h15
  have hzs : z.size ≤ 100002 := by have := exF_len r t qe; rw [hz] at this; simp only at this; omega
  have hzf : z.toList.isEmpty = false := full_bytes hz0
  obtain ⟨RR, hRR⟩ : ∃ R, nuS r a l 4 (⟨(d0 :: ds).toArray⟩ ++ z) Z = R := ⟨_, rfl⟩
  rw [hRR]
  unfold nuS at hRR
  have hsz : ∀ q : List UInt8, (ByteArray.mk q.toArray).size = q.length := fun q => by simp [ByteArray.size]
  have hXs : ((⟨(d0 :: ds).toArray⟩ ++ z) : ByteArray).size ≤ 1000000 := by
    have e3 : (⟨#[46]⟩ : ByteArray).size = 1 := rfl
    have e4 : (⟨#[]⟩ : ByteArray).size = 0 := rfl
    have e1 := hsz (d0 :: ds)
    simp only [List.length_cons] at e1
    (try simp only [ByteArray.size_append])
    omega
  clear hsz
  have H1 := Lib.hid h1
  have H2 := Lib.hid h2
  have H3 := Lib.hid h3
  have H4 := Lib.hid h4
  have H5 := Lib.hid h5
  have H6 := Lib.hid h6
  have H7 := Lib.hid h7
  have H8 := Lib.hid h8
  have H9 := Lib.hid h9
  have H10 := Lib.hid h10
  have H11 := Lib.hid h11
  have H12 := Lib.hid h12
  have H13 := Lib.hid h13
  have H15 := Lib.hid h15
  clear h1 h2 h3 h4 h5 h6 h7 h8 h9 h10 h11 h12 h13 h15 hS hL hq hk hm hp hc hpae hpb hcb hlb hd hsb hsbe hp1 hz hlp hw1 hz0
  subst hp0
  by_cases h100 : 100 < lc (⟨(d0 :: ds).toArray⟩ ++ z) 0
  · have hRe : RR = ⟨r, (a : Int), l, (a : Int), 3⟩ := by rw [← hRR]; exact if_pos h100
    subst hRe
    have h16 := fun W => rsize_any (⟨(d0 :: ds).toArray⟩ ++ z) W hXs
    obtain ⟨n, hn⟩ : ∃ n, lc (⟨(d0 :: ds).toArray⟩ ++ z) 0 = n := ⟨_, rfl⟩
    rw [hn] at h16 h100
    have h100b : decide ((n : Int) > 100) = true := decide_eq_true (by omega)
    have H16 := Lib.hid h16
    have HFA := Lib.hid (fail_new S t (a : Int) r v b 3 (a : Int) w HSR.out)
    clear h16 hn hRR
    skip
    go_enter Tryz.func61, Tryz.ntmps61
    go_wp2_with (first | (go_at_call 97; (with_reducible refine (H1.out).mono ?_); rintro e w' ⟨rfl, rfl⟩) | (go_at_call 98; (with_reducible refine (H2.out).mono ?_); rintro e w' ⟨rfl, rfl⟩) | (go_at_call 98; (with_reducible refine (H3.out).mono ?_); rintro e w' ⟨rfl, rfl⟩) | (go_at_call 60; (with_reducible refine (H4.out).mono ?_); rintro e w' ⟨rfl, rfl⟩) | (go_at_call 60; (with_reducible refine (H5.out).mono ?_); rintro e w' ⟨rfl, rfl⟩) | (go_at_call 69; (with_reducible refine (H6.out _).mono ?_); rintro e w' ⟨rfl, rfl⟩) | (go_at_call 62; (with_reducible refine (H7.out).mono ?_); rintro e w' ⟨rfl, rfl⟩) | (go_at_call 69; (with_reducible refine (H8.out _).mono ?_); rintro e w' ⟨rfl, rfl⟩) | (go_at_call 99; (with_reducible refine (H9.out _).mono ?_); rintro e w' ⟨rfl, rfl⟩) | (go_at_call 59; (with_reducible refine (H10.out _).mono ?_); rintro e w' ⟨rfl, rfl⟩) | (go_at_call 62; (with_reducible refine (H11.out).mono ?_); rintro e w' ⟨rfl, rfl⟩) | (go_at_call 60; (with_reducible refine (H12.out).mono ?_); rintro e w' ⟨rfl, rfl⟩) | (go_at_call 59; (with_reducible refine (H13.out _).mono ?_); rintro e w' ⟨rfl, rfl⟩) | (go_at_call 101; (with_reducible refine (H15.out).mono ?_); rintro e w' ⟨rfl, rfl⟩) | (go_at_call 102; (with_reducible refine (H16.out _).mono ?_); rintro e w' ⟨rfl, rfl⟩) | (go_at_call 54; (with_reducible refine HFA.out.mono ?_); (rintro e5 w5 ⟨rfl, hS5, hg5⟩); (have HADD := Lib.hid (radd_any B S t (a : Int) r v 3 (a : Int) 4 (a : Int) (Z : Int) (⟨(d0 :: ds).toArray⟩ ++ z) l w5 hS5 (HSR.out.slgb HLR.out hg5) hB hll))) | (go_at_call 58; (with_reducible refine HADD.out.mono ?_); (rintro e6 w6 ⟨rfl, ⟨v6, hS6, hL6⟩, hb6, _⟩)))
    go_returns
    exact ⟨rfl, ⟨_, _, _, _, v6, _, hS6, hL6, (fun h => absurd h (show ¬ ((3 : Int) = 0) by decide)), (fun _ => ⟨rfl, rfl⟩)⟩, (hg5.below hB (by omega)).trans hb6⟩
  · have hRe : RR = ⟨r, (Z : Int), l ++ [(4, (⟨(d0 :: ds).toArray⟩ ++ z), (a : Int))], 0, 0⟩ := by rw [← hRR]; exact if_neg h100
    subst hRe
    have h16 := fun W => rsize_any (⟨(d0 :: ds).toArray⟩ ++ z) W hXs
    obtain ⟨n, hn⟩ : ∃ n, lc (⟨(d0 :: ds).toArray⟩ ++ z) 0 = n := ⟨_, rfl⟩
    rw [hn] at h16 h100
    have h100b : decide ((n : Int) > 100) = false := decide_eq_false (by omega)
    have H16 := Lib.hid h16
    have HADD := Lib.hid (radd_any B S t (a : Int) r v 0 b 4 (a : Int) (Z : Int) (⟨(d0 :: ds).toArray⟩ ++ z) l w HSR.out HLR.out hB hll)
    clear h16 hn hRR
    skip
    go_enter Tryz.func61, Tryz.ntmps61
    go_wp2_with (first | (go_at_call 97; (with_reducible refine (H1.out).mono ?_); rintro e w' ⟨rfl, rfl⟩) | (go_at_call 98; (with_reducible refine (H2.out).mono ?_); rintro e w' ⟨rfl, rfl⟩) | (go_at_call 98; (with_reducible refine (H3.out).mono ?_); rintro e w' ⟨rfl, rfl⟩) | (go_at_call 60; (with_reducible refine (H4.out).mono ?_); rintro e w' ⟨rfl, rfl⟩) | (go_at_call 60; (with_reducible refine (H5.out).mono ?_); rintro e w' ⟨rfl, rfl⟩) | (go_at_call 69; (with_reducible refine (H6.out _).mono ?_); rintro e w' ⟨rfl, rfl⟩) | (go_at_call 62; (with_reducible refine (H7.out).mono ?_); rintro e w' ⟨rfl, rfl⟩) | (go_at_call 69; (with_reducible refine (H8.out _).mono ?_); rintro e w' ⟨rfl, rfl⟩) | (go_at_call 99; (with_reducible refine (H9.out _).mono ?_); rintro e w' ⟨rfl, rfl⟩) | (go_at_call 59; (with_reducible refine (H10.out _).mono ?_); rintro e w' ⟨rfl, rfl⟩) | (go_at_call 62; (with_reducible refine (H11.out).mono ?_); rintro e w' ⟨rfl, rfl⟩) | (go_at_call 60; (with_reducible refine (H12.out).mono ?_); rintro e w' ⟨rfl, rfl⟩) | (go_at_call 59; (with_reducible refine (H13.out _).mono ?_); rintro e w' ⟨rfl, rfl⟩) | (go_at_call 101; (with_reducible refine (H15.out).mono ?_); rintro e w' ⟨rfl, rfl⟩) | (go_at_call 102; (with_reducible refine (H16.out _).mono ?_); rintro e w' ⟨rfl, rfl⟩) | (go_at_call 58; (with_reducible refine HADD.out.mono ?_); (rintro e6 w6 ⟨rfl, ⟨v6, hS6, hL6⟩, hb6, _⟩)))
    go_returns
    exact ⟨rfl, ⟨_, _, _, _, v6, _, hS6, hL6, (fun _ => ⟨rfl, rfl, rfl, rfl⟩), (fun h => absurd rfl h)⟩, hb6⟩
set_option maxRecDepth 100000 in
set_option maxHeartbeats 8000000 in
theorem rnum_n1p2e0 (B S a : Nat) (t : ByteArray) (r b : Int) (v : Value) (l : List Sy) (w : World) (hS : Rc w S t (a : Int) r v 0 b) (hL : Sl w B v l) (hB : B ≤ S) (hl : t.size ≤ 100000) (hll : l.length ≤ 1000000) (ha : a < t.size) (hd : bDi (pk t a) = true) (ql : List UInt8) (qe : Nat) (hq : rnF bDi bDi0 r t a = (ql, qe)) (hw1 : loA (pk t (sk t qe)) ≠ 114) (hp0 : pk t (sk t qe) = 46) (hp1 : bDi (pk t ((sk t qe) + 1)) = true) (yl : List UInt8) (ye : Nat) (hy : rnF bDi bDi0 r t ((sk t qe) + 1) = (yl, ye)) (z : ByteArray) (Z : Nat) (hz : exF r t ye = (z, Z)) (hz0 : z = ⟨#[]⟩) :
    Calls Tryz.prog 61 #[.pointer (some ⟨S, 0, none⟩)] w (RPo B S t w (nuS r a l 4 (⟨ql.toArray⟩ ++ ⟨#[46]⟩ ++ ⟨yl.toArray⟩) ye)) := by
  have hlt := hS.lt
  have c0 := hS.c0
  have c1 := hS.c1
  have c2 := hS.c2
  have HSR := Lib.hid hS
  have HLR := Lib.hid hL
  have hpa := (pk_in ha).symm
  have hqe : qe ≤ t.size := by have := rnF_end bDi bDi0 r t a (by omega); rw [hq] at this; exact this
  have hqa : ql.length ≤ 100000 := by have := rnF_len bDi bDi0 r t a; rw [hq] at this; simp only at this; omega
  have h1 := rdig_any t S a r w c0 hl (by omega) (ru_no (di_ch (r := r) hd).2)
  rw [hq] at h1
  have hk1 := sk_le hqe
  have h2 := behind_any t S qe w c0 hl (by omega)
  have h3 := behind_any t S (sk t qe + 1) w c0 hl (by omega)
  have h4 := at_any t S (sk t (sk t qe + 1)) w c0 hl (by have := sk_le1 (t := t) (i := sk t qe + 1) (by omega); omega)
  have h5 := at_any t S (sk t qe) w c0 hl (by omega)
  have hpb := pk_bd t (sk t qe)
  have hcb := pk_bd t (sk t (sk t qe + 1))
  obtain ⟨k, hk⟩ : ∃ k, sk t qe = k := ⟨_, rfl⟩
  rw [hk] at h2 h3 h4 h5 hpb hcb hk1 hw1 hp0 hp1 hy
  obtain ⟨m, hm⟩ : ∃ m, sk t (k + 1) = m := ⟨_, rfl⟩
  rw [hm] at h3 h4 hcb
  rw [show ((k + 1 : Nat) : Int) = (k : Int) + 1 by omega] at h3
  obtain ⟨p, hp⟩ : ∃ p, pk t k = p := ⟨_, rfl⟩
  obtain ⟨c, hc⟩ : ∃ c, pk t m = c := ⟨_, rfl⟩
  rw [hp] at h5 hpb hw1 hp0
  rw [hc] at h4 hcb
  have h6 := fun w => rb_lo p w hpb.1 hpb.2
  have h7 := letter_any S r p w c2 hpb.1 hpb.2
  have h8 := fun w => rb_lo c w hcb.1 hcb.2
  have hlb := lo_bd hcb.1 hcb.2
  have h9 := fun w => rb_hx (loA c) w hlb.1 hlb.2
  have h10 := fun w => rb_di c w hcb.1 hcb.2
  have h11 := letter_any S r c w c2 hcb.1 hcb.2
  have hq48 : 48 ≤ pk t a ∧ pk t a ≤ 57 := of_decide_eq_true hd
  obtain ⟨pa, hpae⟩ : ∃ p, pk t a = p := ⟨_, rfl⟩
  rw [hpae] at hpa hq48
  have hpa2 : (pa != 46) = true := by rw [bne_iff_ne]; omega
  obtain ⟨d0, ds, hds⟩ : ∃ d ds, ql = d :: ds := by
    cases ql with
    | nil =>
      exfalso
      have h := (di_ch (r := r) hd)
      have hs : sk t a = a := ru_no h.2
      unfold rnF at hq
      rw [hs, rn_yes h.1] at hq
      cases hq
    | cons x xs => exact ⟨x, xs, rfl⟩
  subst hds
  have hdl : ds.length ≤ 100000 := by simp only [List.length_cons] at hqa; omega
  obtain ⟨lp, hlp⟩ : ∃ u, loA p = u := ⟨_, rfl⟩
  rw [hlp] at h6 hw1
  have hw1b : (lp == 114) = false := by rw [beq_eq_false_iff_ne]; exact hw1
  have h12 := at_any t S (k + 1) w c0 hl (by omega)
  rw [show ((k + 1 : Nat) : Int) = (k : Int) + 1 by omega] at h12
  have hsb := pk_bd t (k + 1)
  obtain ⟨sb, hsbe⟩ : ∃ s, pk t (k + 1) = s := ⟨_, rfl⟩
  have hkl : k + 1 < t.size := pk_lt rfl (fun h => by rw [h] at hp1; cases hp1)
  have hyl : yl.length ≤ 100000 := by have := rnF_len bDi bDi0 r t (k + 1); rw [hy] at this; simp only at this; omega
  have hye : ye ≤ t.size := by have := rnF_end bDi bDi0 r t (k + 1) (by omega); rw [hy] at this; exact this
  have h14 := rdig_any t S (k + 1) r w c0 hl (by omega) (ru_no (di_ch (r := r) hp1).2)
  rw [hy, show ((k + 1 : Nat) : Int) = (k : Int) + 1 by omega] at h14
  rw [hsbe] at h12 hsb hp1
  have h13 := fun w => rb_di sb w hsb.1 hsb.2
  rw [hp1] at h13
  have hel : ye ≤ t.size := by omega
  have h15 := rexp_any t S ye r w c0 c2 hl hel
  rw [hz] at h15
  have hzs : z.size ≤ 100002 := by have := exF_len r t ye; rw [hz] at this; simp only at this; omega
  subst hz0
  obtain ⟨RR, hRR⟩ : ∃ R, nuS r a l 4 (⟨(d0 :: ds).toArray⟩ ++ ⟨#[46]⟩ ++ ⟨yl.toArray⟩) ye = R := ⟨_, rfl⟩
  rw [hRR]
  unfold nuS at hRR
  have hsz : ∀ q : List UInt8, (ByteArray.mk q.toArray).size = q.length := fun q => by simp [ByteArray.size]
  have hXs : ((⟨(d0 :: ds).toArray⟩ ++ ⟨#[46]⟩ ++ ⟨yl.toArray⟩) : ByteArray).size ≤ 1000000 := by
    have e3 : (⟨#[46]⟩ : ByteArray).size = 1 := rfl
    have e4 : (⟨#[]⟩ : ByteArray).size = 0 := rfl
    have e1 := hsz (d0 :: ds)
    simp only [List.length_cons] at e1
    have e2 := hsz yl
    (try simp only [ByteArray.size_append])
    omega
  clear hsz
  have H1 := Lib.hid h1
  have H2 := Lib.hid h2
  have H3 := Lib.hid h3
  have H4 := Lib.hid h4
  have H5 := Lib.hid h5
  have H6 := Lib.hid h6
  have H7 := Lib.hid h7
  have H8 := Lib.hid h8
  have H9 := Lib.hid h9
  have H10 := Lib.hid h10
  have H11 := Lib.hid h11
  have H12 := Lib.hid h12
  have H13 := Lib.hid h13
  have H14 := Lib.hid h14
  have H15 := Lib.hid h15
  clear h1 h2 h3 h4 h5 h6 h7 h8 h9 h10 h11 h12 h13 h14 h15 hS hL hq hk hm hp hc hpae hpb hcb hlb hd hsb hsbe hp1 hy hz hlp hw1
  subst hp0
  by_cases h100 : 100 < lc (⟨(d0 :: ds).toArray⟩ ++ ⟨#[46]⟩ ++ ⟨yl.toArray⟩) 0
  · have hRe : RR = ⟨r, (a : Int), l, (a : Int), 3⟩ := by rw [← hRR]; exact if_pos h100
    subst hRe
    have h16 := fun W => rsize_any (⟨(d0 :: ds).toArray⟩ ++ ⟨#[46]⟩ ++ ⟨yl.toArray⟩) W hXs
    obtain ⟨n, hn⟩ : ∃ n, lc (⟨(d0 :: ds).toArray⟩ ++ ⟨#[46]⟩ ++ ⟨yl.toArray⟩) 0 = n := ⟨_, rfl⟩
    rw [hn] at h16 h100
    have h100b : decide ((n : Int) > 100) = true := decide_eq_true (by omega)
    have H16 := Lib.hid h16
    have HFA := Lib.hid (fail_new S t (a : Int) r v b 3 (a : Int) w HSR.out)
    clear h16 hn hRR
    skip
    go_enter Tryz.func61, Tryz.ntmps61
    go_wp2_with (first | (go_at_call 97; (with_reducible refine (H1.out).mono ?_); rintro e w' ⟨rfl, rfl⟩) | (go_at_call 98; (with_reducible refine (H2.out).mono ?_); rintro e w' ⟨rfl, rfl⟩) | (go_at_call 98; (with_reducible refine (H3.out).mono ?_); rintro e w' ⟨rfl, rfl⟩) | (go_at_call 60; (with_reducible refine (H4.out).mono ?_); rintro e w' ⟨rfl, rfl⟩) | (go_at_call 60; (with_reducible refine (H5.out).mono ?_); rintro e w' ⟨rfl, rfl⟩) | (go_at_call 69; (with_reducible refine (H6.out _).mono ?_); rintro e w' ⟨rfl, rfl⟩) | (go_at_call 62; (with_reducible refine (H7.out).mono ?_); rintro e w' ⟨rfl, rfl⟩) | (go_at_call 69; (with_reducible refine (H8.out _).mono ?_); rintro e w' ⟨rfl, rfl⟩) | (go_at_call 99; (with_reducible refine (H9.out _).mono ?_); rintro e w' ⟨rfl, rfl⟩) | (go_at_call 59; (with_reducible refine (H10.out _).mono ?_); rintro e w' ⟨rfl, rfl⟩) | (go_at_call 62; (with_reducible refine (H11.out).mono ?_); rintro e w' ⟨rfl, rfl⟩) | (go_at_call 60; (with_reducible refine (H12.out).mono ?_); rintro e w' ⟨rfl, rfl⟩) | (go_at_call 59; (with_reducible refine (H13.out _).mono ?_); rintro e w' ⟨rfl, rfl⟩) | (go_at_call 97; (with_reducible refine (H14.out).mono ?_); rintro e w' ⟨rfl, rfl⟩) | (go_at_call 101; (with_reducible refine (H15.out).mono ?_); rintro e w' ⟨rfl, rfl⟩) | (go_at_call 102; (with_reducible refine (H16.out _).mono ?_); rintro e w' ⟨rfl, rfl⟩) | (go_at_call 54; (with_reducible refine HFA.out.mono ?_); (rintro e5 w5 ⟨rfl, hS5, hg5⟩); (have HADD := Lib.hid (radd_any B S t (a : Int) r v 3 (a : Int) 4 (a : Int) (ye : Int) (⟨(d0 :: ds).toArray⟩ ++ ⟨#[46]⟩ ++ ⟨yl.toArray⟩) l w5 hS5 (HSR.out.slgb HLR.out hg5) hB hll))) | (go_at_call 58; (with_reducible refine HADD.out.mono ?_); (rintro e6 w6 ⟨rfl, ⟨v6, hS6, hL6⟩, hb6, _⟩)))
    go_returns
    exact ⟨rfl, ⟨_, _, _, _, v6, _, hS6, hL6, (fun h => absurd h (show ¬ ((3 : Int) = 0) by decide)), (fun _ => ⟨rfl, rfl⟩)⟩, (hg5.below hB (by omega)).trans hb6⟩
  · have hRe : RR = ⟨r, (ye : Int), l ++ [(4, (⟨(d0 :: ds).toArray⟩ ++ ⟨#[46]⟩ ++ ⟨yl.toArray⟩), (a : Int))], 0, 0⟩ := by rw [← hRR]; exact if_neg h100
    subst hRe
    have h16 := fun W => rsize_any (⟨(d0 :: ds).toArray⟩ ++ ⟨#[46]⟩ ++ ⟨yl.toArray⟩) W hXs
    obtain ⟨n, hn⟩ : ∃ n, lc (⟨(d0 :: ds).toArray⟩ ++ ⟨#[46]⟩ ++ ⟨yl.toArray⟩) 0 = n := ⟨_, rfl⟩
    rw [hn] at h16 h100
    have h100b : decide ((n : Int) > 100) = false := decide_eq_false (by omega)
    have H16 := Lib.hid h16
    have HADD := Lib.hid (radd_any B S t (a : Int) r v 0 b 4 (a : Int) (ye : Int) (⟨(d0 :: ds).toArray⟩ ++ ⟨#[46]⟩ ++ ⟨yl.toArray⟩) l w HSR.out HLR.out hB hll)
    clear h16 hn hRR
    skip
    go_enter Tryz.func61, Tryz.ntmps61
    go_wp2_with (first | (go_at_call 97; (with_reducible refine (H1.out).mono ?_); rintro e w' ⟨rfl, rfl⟩) | (go_at_call 98; (with_reducible refine (H2.out).mono ?_); rintro e w' ⟨rfl, rfl⟩) | (go_at_call 98; (with_reducible refine (H3.out).mono ?_); rintro e w' ⟨rfl, rfl⟩) | (go_at_call 60; (with_reducible refine (H4.out).mono ?_); rintro e w' ⟨rfl, rfl⟩) | (go_at_call 60; (with_reducible refine (H5.out).mono ?_); rintro e w' ⟨rfl, rfl⟩) | (go_at_call 69; (with_reducible refine (H6.out _).mono ?_); rintro e w' ⟨rfl, rfl⟩) | (go_at_call 62; (with_reducible refine (H7.out).mono ?_); rintro e w' ⟨rfl, rfl⟩) | (go_at_call 69; (with_reducible refine (H8.out _).mono ?_); rintro e w' ⟨rfl, rfl⟩) | (go_at_call 99; (with_reducible refine (H9.out _).mono ?_); rintro e w' ⟨rfl, rfl⟩) | (go_at_call 59; (with_reducible refine (H10.out _).mono ?_); rintro e w' ⟨rfl, rfl⟩) | (go_at_call 62; (with_reducible refine (H11.out).mono ?_); rintro e w' ⟨rfl, rfl⟩) | (go_at_call 60; (with_reducible refine (H12.out).mono ?_); rintro e w' ⟨rfl, rfl⟩) | (go_at_call 59; (with_reducible refine (H13.out _).mono ?_); rintro e w' ⟨rfl, rfl⟩) | (go_at_call 97; (with_reducible refine (H14.out).mono ?_); rintro e w' ⟨rfl, rfl⟩) | (go_at_call 101; (with_reducible refine (H15.out).mono ?_); rintro e w' ⟨rfl, rfl⟩) | (go_at_call 102; (with_reducible refine (H16.out _).mono ?_); rintro e w' ⟨rfl, rfl⟩) | (go_at_call 58; (with_reducible refine HADD.out.mono ?_); (rintro e6 w6 ⟨rfl, ⟨v6, hS6, hL6⟩, hb6, _⟩)))
    go_returns
    exact ⟨rfl, ⟨_, _, _, _, v6, _, hS6, hL6, (fun _ => ⟨rfl, rfl, rfl, rfl⟩), (fun h => absurd rfl h)⟩, hb6⟩
set_option maxRecDepth 100000 in
set_option maxHeartbeats 8000000 in
theorem rnum_n1p2e1 (B S a : Nat) (t : ByteArray) (r b : Int) (v : Value) (l : List Sy) (w : World) (hS : Rc w S t (a : Int) r v 0 b) (hL : Sl w B v l) (hB : B ≤ S) (hl : t.size ≤ 100000) (hll : l.length ≤ 1000000) (ha : a < t.size) (hd : bDi (pk t a) = true) (ql : List UInt8) (qe : Nat) (hq : rnF bDi bDi0 r t a = (ql, qe)) (hw1 : loA (pk t (sk t qe)) ≠ 114) (hp0 : pk t (sk t qe) = 46) (hp1 : bDi (pk t ((sk t qe) + 1)) = true) (yl : List UInt8) (ye : Nat) (hy : rnF bDi bDi0 r t ((sk t qe) + 1) = (yl, ye)) (z : ByteArray) (Z : Nat) (hz : exF r t ye = (z, Z)) (hz0 : z ≠ ⟨#[]⟩) :
    Calls Tryz.prog 61 #[.pointer (some ⟨S, 0, none⟩)] w (RPo B S t w (nuS r a l 4 ((⟨ql.toArray⟩ ++ ⟨#[46]⟩ ++ ⟨yl.toArray⟩) ++ z) Z)) := by
  have hlt := hS.lt
  have c0 := hS.c0
  have c1 := hS.c1
  have c2 := hS.c2
  have HSR := Lib.hid hS
  have HLR := Lib.hid hL
  have hpa := (pk_in ha).symm
  have hqe : qe ≤ t.size := by have := rnF_end bDi bDi0 r t a (by omega); rw [hq] at this; exact this
  have hqa : ql.length ≤ 100000 := by have := rnF_len bDi bDi0 r t a; rw [hq] at this; simp only at this; omega
  have h1 := rdig_any t S a r w c0 hl (by omega) (ru_no (di_ch (r := r) hd).2)
  rw [hq] at h1
  have hk1 := sk_le hqe
  have h2 := behind_any t S qe w c0 hl (by omega)
  have h3 := behind_any t S (sk t qe + 1) w c0 hl (by omega)
  have h4 := at_any t S (sk t (sk t qe + 1)) w c0 hl (by have := sk_le1 (t := t) (i := sk t qe + 1) (by omega); omega)
  have h5 := at_any t S (sk t qe) w c0 hl (by omega)
  have hpb := pk_bd t (sk t qe)
  have hcb := pk_bd t (sk t (sk t qe + 1))
  obtain ⟨k, hk⟩ : ∃ k, sk t qe = k := ⟨_, rfl⟩
  rw [hk] at h2 h3 h4 h5 hpb hcb hk1 hw1 hp0 hp1 hy
  obtain ⟨m, hm⟩ : ∃ m, sk t (k + 1) = m := ⟨_, rfl⟩
  rw [hm] at h3 h4 hcb
  rw [show ((k + 1 : Nat) : Int) = (k : Int) + 1 by omega] at h3
  obtain ⟨p, hp⟩ : ∃ p, pk t k = p := ⟨_, rfl⟩
  obtain ⟨c, hc⟩ : ∃ c, pk t m = c := ⟨_, rfl⟩
  rw [hp] at h5 hpb hw1 hp0
  rw [hc] at h4 hcb
  have h6 := fun w => rb_lo p w hpb.1 hpb.2
  have h7 := letter_any S r p w c2 hpb.1 hpb.2
  have h8 := fun w => rb_lo c w hcb.1 hcb.2
  have hlb := lo_bd hcb.1 hcb.2
  have h9 := fun w => rb_hx (loA c) w hlb.1 hlb.2
  have h10 := fun w => rb_di c w hcb.1 hcb.2
  have h11 := letter_any S r c w c2 hcb.1 hcb.2
  have hq48 : 48 ≤ pk t a ∧ pk t a ≤ 57 := of_decide_eq_true hd
  obtain ⟨pa, hpae⟩ : ∃ p, pk t a = p := ⟨_, rfl⟩
  rw [hpae] at hpa hq48
  have hpa2 : (pa != 46) = true := by rw [bne_iff_ne]; omega
  obtain ⟨d0, ds, hds⟩ : ∃ d ds, ql = d :: ds := by
    cases ql with
    | nil =>
      exfalso
      have h := (di_ch (r := r) hd)
      have hs : sk t a = a := ru_no h.2
      unfold rnF at hq
      rw [hs, rn_yes h.1] at hq
      cases hq
    | cons x xs => exact ⟨x, xs, rfl⟩
  subst hds
  have hdl : ds.length ≤ 100000 := by simp only [List.length_cons] at hqa; omega
  obtain ⟨lp, hlp⟩ : ∃ u, loA p = u := ⟨_, rfl⟩
  rw [hlp] at h6 hw1
  have hw1b : (lp == 114) = false := by rw [beq_eq_false_iff_ne]; exact hw1
  have h12 := at_any t S (k + 1) w c0 hl (by omega)
  rw [show ((k + 1 : Nat) : Int) = (k : Int) + 1 by omega] at h12
  have hsb := pk_bd t (k + 1)
  obtain ⟨sb, hsbe⟩ : ∃ s, pk t (k + 1) = s := ⟨_, rfl⟩
  have hkl : k + 1 < t.size := pk_lt rfl (fun h => by rw [h] at hp1; cases hp1)
  have hyl : yl.length ≤ 100000 := by have := rnF_len bDi bDi0 r t (k + 1); rw [hy] at this; simp only at this; omega
  have hye : ye ≤ t.size := by have := rnF_end bDi bDi0 r t (k + 1) (by omega); rw [hy] at this; exact this
  have h14 := rdig_any t S (k + 1) r w c0 hl (by omega) (ru_no (di_ch (r := r) hp1).2)
  rw [hy, show ((k + 1 : Nat) : Int) = (k : Int) + 1 by omega] at h14
  rw [hsbe] at h12 hsb hp1
  have h13 := fun w => rb_di sb w hsb.1 hsb.2
  rw [hp1] at h13
  have hel : ye ≤ t.size := by omega
  have h15 := rexp_any t S ye r w c0 c2 hl hel
  rw [hz] at h15
  have hzs : z.size ≤ 100002 := by have := exF_len r t ye; rw [hz] at this; simp only at this; omega
  have hzf : z.toList.isEmpty = false := full_bytes hz0
  obtain ⟨RR, hRR⟩ : ∃ R, nuS r a l 4 ((⟨(d0 :: ds).toArray⟩ ++ ⟨#[46]⟩ ++ ⟨yl.toArray⟩) ++ z) Z = R := ⟨_, rfl⟩
  rw [hRR]
  unfold nuS at hRR
  have hsz : ∀ q : List UInt8, (ByteArray.mk q.toArray).size = q.length := fun q => by simp [ByteArray.size]
  have hXs : (((⟨(d0 :: ds).toArray⟩ ++ ⟨#[46]⟩ ++ ⟨yl.toArray⟩) ++ z) : ByteArray).size ≤ 1000000 := by
    have e3 : (⟨#[46]⟩ : ByteArray).size = 1 := rfl
    have e4 : (⟨#[]⟩ : ByteArray).size = 0 := rfl
    have e1 := hsz (d0 :: ds)
    simp only [List.length_cons] at e1
    have e2 := hsz yl
    (try simp only [ByteArray.size_append])
    omega
  clear hsz
  have H1 := Lib.hid h1
  have H2 := Lib.hid h2
  have H3 := Lib.hid h3
  have H4 := Lib.hid h4
  have H5 := Lib.hid h5
  have H6 := Lib.hid h6
  have H7 := Lib.hid h7
  have H8 := Lib.hid h8
  have H9 := Lib.hid h9
  have H10 := Lib.hid h10
  have H11 := Lib.hid h11
  have H12 := Lib.hid h12
  have H13 := Lib.hid h13
  have H14 := Lib.hid h14
  have H15 := Lib.hid h15
  clear h1 h2 h3 h4 h5 h6 h7 h8 h9 h10 h11 h12 h13 h14 h15 hS hL hq hk hm hp hc hpae hpb hcb hlb hd hsb hsbe hp1 hy hz hlp hw1 hz0
  subst hp0
  by_cases h100 : 100 < lc ((⟨(d0 :: ds).toArray⟩ ++ ⟨#[46]⟩ ++ ⟨yl.toArray⟩) ++ z) 0
  · have hRe : RR = ⟨r, (a : Int), l, (a : Int), 3⟩ := by rw [← hRR]; exact if_pos h100
    subst hRe
    have h16 := fun W => rsize_any ((⟨(d0 :: ds).toArray⟩ ++ ⟨#[46]⟩ ++ ⟨yl.toArray⟩) ++ z) W hXs
    obtain ⟨n, hn⟩ : ∃ n, lc ((⟨(d0 :: ds).toArray⟩ ++ ⟨#[46]⟩ ++ ⟨yl.toArray⟩) ++ z) 0 = n := ⟨_, rfl⟩
    rw [hn] at h16 h100
    have h100b : decide ((n : Int) > 100) = true := decide_eq_true (by omega)
    have H16 := Lib.hid h16
    have HFA := Lib.hid (fail_new S t (a : Int) r v b 3 (a : Int) w HSR.out)
    clear h16 hn hRR
    skip
    go_enter Tryz.func61, Tryz.ntmps61
    go_wp2_with (first | (go_at_call 97; (with_reducible refine (H1.out).mono ?_); rintro e w' ⟨rfl, rfl⟩) | (go_at_call 98; (with_reducible refine (H2.out).mono ?_); rintro e w' ⟨rfl, rfl⟩) | (go_at_call 98; (with_reducible refine (H3.out).mono ?_); rintro e w' ⟨rfl, rfl⟩) | (go_at_call 60; (with_reducible refine (H4.out).mono ?_); rintro e w' ⟨rfl, rfl⟩) | (go_at_call 60; (with_reducible refine (H5.out).mono ?_); rintro e w' ⟨rfl, rfl⟩) | (go_at_call 69; (with_reducible refine (H6.out _).mono ?_); rintro e w' ⟨rfl, rfl⟩) | (go_at_call 62; (with_reducible refine (H7.out).mono ?_); rintro e w' ⟨rfl, rfl⟩) | (go_at_call 69; (with_reducible refine (H8.out _).mono ?_); rintro e w' ⟨rfl, rfl⟩) | (go_at_call 99; (with_reducible refine (H9.out _).mono ?_); rintro e w' ⟨rfl, rfl⟩) | (go_at_call 59; (with_reducible refine (H10.out _).mono ?_); rintro e w' ⟨rfl, rfl⟩) | (go_at_call 62; (with_reducible refine (H11.out).mono ?_); rintro e w' ⟨rfl, rfl⟩) | (go_at_call 60; (with_reducible refine (H12.out).mono ?_); rintro e w' ⟨rfl, rfl⟩) | (go_at_call 59; (with_reducible refine (H13.out _).mono ?_); rintro e w' ⟨rfl, rfl⟩) | (go_at_call 97; (with_reducible refine (H14.out).mono ?_); rintro e w' ⟨rfl, rfl⟩) | (go_at_call 101; (with_reducible refine (H15.out).mono ?_); rintro e w' ⟨rfl, rfl⟩) | (go_at_call 102; (with_reducible refine (H16.out _).mono ?_); rintro e w' ⟨rfl, rfl⟩) | (go_at_call 54; (with_reducible refine HFA.out.mono ?_); (rintro e5 w5 ⟨rfl, hS5, hg5⟩); (have HADD := Lib.hid (radd_any B S t (a : Int) r v 3 (a : Int) 4 (a : Int) (Z : Int) ((⟨(d0 :: ds).toArray⟩ ++ ⟨#[46]⟩ ++ ⟨yl.toArray⟩) ++ z) l w5 hS5 (HSR.out.slgb HLR.out hg5) hB hll))) | (go_at_call 58; (with_reducible refine HADD.out.mono ?_); (rintro e6 w6 ⟨rfl, ⟨v6, hS6, hL6⟩, hb6, _⟩)))
    go_returns
    exact ⟨rfl, ⟨_, _, _, _, v6, _, hS6, hL6, (fun h => absurd h (show ¬ ((3 : Int) = 0) by decide)), (fun _ => ⟨rfl, rfl⟩)⟩, (hg5.below hB (by omega)).trans hb6⟩
  · have hRe : RR = ⟨r, (Z : Int), l ++ [(4, ((⟨(d0 :: ds).toArray⟩ ++ ⟨#[46]⟩ ++ ⟨yl.toArray⟩) ++ z), (a : Int))], 0, 0⟩ := by rw [← hRR]; exact if_neg h100
    subst hRe
    have h16 := fun W => rsize_any ((⟨(d0 :: ds).toArray⟩ ++ ⟨#[46]⟩ ++ ⟨yl.toArray⟩) ++ z) W hXs
    obtain ⟨n, hn⟩ : ∃ n, lc ((⟨(d0 :: ds).toArray⟩ ++ ⟨#[46]⟩ ++ ⟨yl.toArray⟩) ++ z) 0 = n := ⟨_, rfl⟩
    rw [hn] at h16 h100
    have h100b : decide ((n : Int) > 100) = false := decide_eq_false (by omega)
    have H16 := Lib.hid h16
    have HADD := Lib.hid (radd_any B S t (a : Int) r v 0 b 4 (a : Int) (Z : Int) ((⟨(d0 :: ds).toArray⟩ ++ ⟨#[46]⟩ ++ ⟨yl.toArray⟩) ++ z) l w HSR.out HLR.out hB hll)
    clear h16 hn hRR
    skip
    go_enter Tryz.func61, Tryz.ntmps61
    go_wp2_with (first | (go_at_call 97; (with_reducible refine (H1.out).mono ?_); rintro e w' ⟨rfl, rfl⟩) | (go_at_call 98; (with_reducible refine (H2.out).mono ?_); rintro e w' ⟨rfl, rfl⟩) | (go_at_call 98; (with_reducible refine (H3.out).mono ?_); rintro e w' ⟨rfl, rfl⟩) | (go_at_call 60; (with_reducible refine (H4.out).mono ?_); rintro e w' ⟨rfl, rfl⟩) | (go_at_call 60; (with_reducible refine (H5.out).mono ?_); rintro e w' ⟨rfl, rfl⟩) | (go_at_call 69; (with_reducible refine (H6.out _).mono ?_); rintro e w' ⟨rfl, rfl⟩) | (go_at_call 62; (with_reducible refine (H7.out).mono ?_); rintro e w' ⟨rfl, rfl⟩) | (go_at_call 69; (with_reducible refine (H8.out _).mono ?_); rintro e w' ⟨rfl, rfl⟩) | (go_at_call 99; (with_reducible refine (H9.out _).mono ?_); rintro e w' ⟨rfl, rfl⟩) | (go_at_call 59; (with_reducible refine (H10.out _).mono ?_); rintro e w' ⟨rfl, rfl⟩) | (go_at_call 62; (with_reducible refine (H11.out).mono ?_); rintro e w' ⟨rfl, rfl⟩) | (go_at_call 60; (with_reducible refine (H12.out).mono ?_); rintro e w' ⟨rfl, rfl⟩) | (go_at_call 59; (with_reducible refine (H13.out _).mono ?_); rintro e w' ⟨rfl, rfl⟩) | (go_at_call 97; (with_reducible refine (H14.out).mono ?_); rintro e w' ⟨rfl, rfl⟩) | (go_at_call 101; (with_reducible refine (H15.out).mono ?_); rintro e w' ⟨rfl, rfl⟩) | (go_at_call 102; (with_reducible refine (H16.out _).mono ?_); rintro e w' ⟨rfl, rfl⟩) | (go_at_call 58; (with_reducible refine HADD.out.mono ?_); (rintro e6 w6 ⟨rfl, ⟨v6, hS6, hL6⟩, hb6, _⟩)))
    go_returns
    exact ⟨rfl, ⟨_, _, _, _, v6, _, hS6, hL6, (fun _ => ⟨rfl, rfl, rfl, rfl⟩), (fun h => absurd rfl h)⟩, hb6⟩
set_option maxRecDepth 100000 in
set_option maxHeartbeats 8000000 in
theorem rnum_n2p0e0 (B S a : Nat) (t : ByteArray) (r b : Int) (v : Value) (l : List Sy) (w : World) (hS : Rc w S t (a : Int) r v 0 b) (hL : Sl w B v l) (hB : B ≤ S) (hl : t.size ≤ 100000) (hll : l.length ≤ 1000000) (ha : a < t.size) (hd : bDi (pk t a) = true) (ql : List UInt8) (qe : Nat) (hq : rnF bDi bDi0 r t a = (ql, qe)) (hw1 : loA (pk t (sk t qe)) = 114) (hw2 : ltB r (pk t (sk t qe)) = false) (hp0 : pk t (sk t qe) ≠ 46) (z : ByteArray) (Z : Nat) (hz : exF r t qe = (z, Z)) (hz0 : z = ⟨#[]⟩) :
    Calls Tryz.prog 61 #[.pointer (some ⟨S, 0, none⟩)] w (RPo B S t w (nuS r a l 3 ⟨ql.toArray⟩ qe)) := by
  have hlt := hS.lt
  have c0 := hS.c0
  have c1 := hS.c1
  have c2 := hS.c2
  have HSR := Lib.hid hS
  have HLR := Lib.hid hL
  have hpa := (pk_in ha).symm
  have hqe : qe ≤ t.size := by have := rnF_end bDi bDi0 r t a (by omega); rw [hq] at this; exact this
  have hqa : ql.length ≤ 100000 := by have := rnF_len bDi bDi0 r t a; rw [hq] at this; simp only at this; omega
  have h1 := rdig_any t S a r w c0 hl (by omega) (ru_no (di_ch (r := r) hd).2)
  rw [hq] at h1
  have hk1 := sk_le hqe
  have h2 := behind_any t S qe w c0 hl (by omega)
  have h3 := behind_any t S (sk t qe + 1) w c0 hl (by omega)
  have h4 := at_any t S (sk t (sk t qe + 1)) w c0 hl (by have := sk_le1 (t := t) (i := sk t qe + 1) (by omega); omega)
  have h5 := at_any t S (sk t qe) w c0 hl (by omega)
  have hpb := pk_bd t (sk t qe)
  have hcb := pk_bd t (sk t (sk t qe + 1))
  obtain ⟨k, hk⟩ : ∃ k, sk t qe = k := ⟨_, rfl⟩
  rw [hk] at h2 h3 h4 h5 hpb hcb hk1 hw1 hw2 hp0
  obtain ⟨m, hm⟩ : ∃ m, sk t (k + 1) = m := ⟨_, rfl⟩
  rw [hm] at h3 h4 hcb
  rw [show ((k + 1 : Nat) : Int) = (k : Int) + 1 by omega] at h3
  obtain ⟨p, hp⟩ : ∃ p, pk t k = p := ⟨_, rfl⟩
  obtain ⟨c, hc⟩ : ∃ c, pk t m = c := ⟨_, rfl⟩
  rw [hp] at h5 hpb hw1 hw2 hp0
  rw [hc] at h4 hcb
  have h6 := fun w => rb_lo p w hpb.1 hpb.2
  have h7 := letter_any S r p w c2 hpb.1 hpb.2
  have h8 := fun w => rb_lo c w hcb.1 hcb.2
  have hlb := lo_bd hcb.1 hcb.2
  have h9 := fun w => rb_hx (loA c) w hlb.1 hlb.2
  have h10 := fun w => rb_di c w hcb.1 hcb.2
  have h11 := letter_any S r c w c2 hcb.1 hcb.2
  have hq48 : 48 ≤ pk t a ∧ pk t a ≤ 57 := of_decide_eq_true hd
  obtain ⟨pa, hpae⟩ : ∃ p, pk t a = p := ⟨_, rfl⟩
  rw [hpae] at hpa hq48
  have hpa2 : (pa != 46) = true := by rw [bne_iff_ne]; omega
  obtain ⟨d0, ds, hds⟩ : ∃ d ds, ql = d :: ds := by
    cases ql with
    | nil =>
      exfalso
      have h := (di_ch (r := r) hd)
      have hs : sk t a = a := ru_no h.2
      unfold rnF at hq
      rw [hs, rn_yes h.1] at hq
      cases hq
    | cons x xs => exact ⟨x, xs, rfl⟩
  subst hds
  have hdl : ds.length ≤ 100000 := by simp only [List.length_cons] at hqa; omega
  rw [hw1] at h6
  rw [hw2] at h7
  have hp0b : (p == 46) = false := by rw [beq_eq_false_iff_ne]; exact hp0
  have hel : qe ≤ t.size := by omega
  have h15 := rexp_any t S qe r w c0 c2 hl hel
  rw [hz] at h15
  have hzs : z.size ≤ 100002 := by have := exF_len r t qe; rw [hz] at this; simp only at this; omega
  subst hz0
  obtain ⟨RR, hRR⟩ : ∃ R, nuS r a l 3 ⟨(d0 :: ds).toArray⟩ qe = R := ⟨_, rfl⟩
  rw [hRR]
  unfold nuS at hRR
  have hsz : ∀ q : List UInt8, (ByteArray.mk q.toArray).size = q.length := fun q => by simp [ByteArray.size]
  have hXs : (⟨(d0 :: ds).toArray⟩ : ByteArray).size ≤ 1000000 := by
    have e3 : (⟨#[46]⟩ : ByteArray).size = 1 := rfl
    have e4 : (⟨#[]⟩ : ByteArray).size = 0 := rfl
    have e1 := hsz (d0 :: ds)
    simp only [List.length_cons] at e1
    (try simp only [ByteArray.size_append])
    omega
  clear hsz
  have H1 := Lib.hid h1
  have H2 := Lib.hid h2
  have H3 := Lib.hid h3
  have H4 := Lib.hid h4
  have H5 := Lib.hid h5
  have H6 := Lib.hid h6
  have H7 := Lib.hid h7
  have H8 := Lib.hid h8
  have H9 := Lib.hid h9
  have H10 := Lib.hid h10
  have H11 := Lib.hid h11
  have H15 := Lib.hid h15
  clear h1 h2 h3 h4 h5 h6 h7 h8 h9 h10 h11 h15 hS hL hq hk hm hp hc hpae hpb hcb hlb hd hz hw1 hw2 hp0
  by_cases h100 : 100 < lc ⟨(d0 :: ds).toArray⟩ 0
  · have hRe : RR = ⟨r, (a : Int), l, (a : Int), 3⟩ := by rw [← hRR]; exact if_pos h100
    subst hRe
    have h16 := fun W => rsize_any ⟨(d0 :: ds).toArray⟩ W hXs
    obtain ⟨n, hn⟩ : ∃ n, lc ⟨(d0 :: ds).toArray⟩ 0 = n := ⟨_, rfl⟩
    rw [hn] at h16 h100
    have h100b : decide ((n : Int) > 100) = true := decide_eq_true (by omega)
    have H16 := Lib.hid h16
    have HFA := Lib.hid (fail_new S t (a : Int) r v b 3 (a : Int) w HSR.out)
    clear h16 hn hRR
    skip
    go_enter Tryz.func61, Tryz.ntmps61
    go_wp2_with (first | (go_at_call 97; (with_reducible refine (H1.out).mono ?_); rintro e w' ⟨rfl, rfl⟩) | (go_at_call 98; (with_reducible refine (H2.out).mono ?_); rintro e w' ⟨rfl, rfl⟩) | (go_at_call 98; (with_reducible refine (H3.out).mono ?_); rintro e w' ⟨rfl, rfl⟩) | (go_at_call 60; (with_reducible refine (H4.out).mono ?_); rintro e w' ⟨rfl, rfl⟩) | (go_at_call 60; (with_reducible refine (H5.out).mono ?_); rintro e w' ⟨rfl, rfl⟩) | (go_at_call 69; (with_reducible refine (H6.out _).mono ?_); rintro e w' ⟨rfl, rfl⟩) | (go_at_call 62; (with_reducible refine (H7.out).mono ?_); rintro e w' ⟨rfl, rfl⟩) | (go_at_call 69; (with_reducible refine (H8.out _).mono ?_); rintro e w' ⟨rfl, rfl⟩) | (go_at_call 99; (with_reducible refine (H9.out _).mono ?_); rintro e w' ⟨rfl, rfl⟩) | (go_at_call 59; (with_reducible refine (H10.out _).mono ?_); rintro e w' ⟨rfl, rfl⟩) | (go_at_call 62; (with_reducible refine (H11.out).mono ?_); rintro e w' ⟨rfl, rfl⟩) | (go_at_call 101; (with_reducible refine (H15.out).mono ?_); rintro e w' ⟨rfl, rfl⟩) | (go_at_call 102; (with_reducible refine (H16.out _).mono ?_); rintro e w' ⟨rfl, rfl⟩) | (go_at_call 54; (with_reducible refine HFA.out.mono ?_); (rintro e5 w5 ⟨rfl, hS5, hg5⟩); (have HADD := Lib.hid (radd_any B S t (a : Int) r v 3 (a : Int) 3 (a : Int) (qe : Int) ⟨(d0 :: ds).toArray⟩ l w5 hS5 (HSR.out.slgb HLR.out hg5) hB hll))) | (go_at_call 58; (with_reducible refine HADD.out.mono ?_); (rintro e6 w6 ⟨rfl, ⟨v6, hS6, hL6⟩, hb6, _⟩)))
    go_returns
    exact ⟨rfl, ⟨_, _, _, _, v6, _, hS6, hL6, (fun h => absurd h (show ¬ ((3 : Int) = 0) by decide)), (fun _ => ⟨rfl, rfl⟩)⟩, (hg5.below hB (by omega)).trans hb6⟩
  · have hRe : RR = ⟨r, (qe : Int), l ++ [(3, ⟨(d0 :: ds).toArray⟩, (a : Int))], 0, 0⟩ := by rw [← hRR]; exact if_neg h100
    subst hRe
    have h16 := fun W => rsize_any ⟨(d0 :: ds).toArray⟩ W hXs
    obtain ⟨n, hn⟩ : ∃ n, lc ⟨(d0 :: ds).toArray⟩ 0 = n := ⟨_, rfl⟩
    rw [hn] at h16 h100
    have h100b : decide ((n : Int) > 100) = false := decide_eq_false (by omega)
    have H16 := Lib.hid h16
    have HADD := Lib.hid (radd_any B S t (a : Int) r v 0 b 3 (a : Int) (qe : Int) ⟨(d0 :: ds).toArray⟩ l w HSR.out HLR.out hB hll)
    clear h16 hn hRR
    skip
    go_enter Tryz.func61, Tryz.ntmps61
    go_wp2_with (first | (go_at_call 97; (with_reducible refine (H1.out).mono ?_); rintro e w' ⟨rfl, rfl⟩) | (go_at_call 98; (with_reducible refine (H2.out).mono ?_); rintro e w' ⟨rfl, rfl⟩) | (go_at_call 98; (with_reducible refine (H3.out).mono ?_); rintro e w' ⟨rfl, rfl⟩) | (go_at_call 60; (with_reducible refine (H4.out).mono ?_); rintro e w' ⟨rfl, rfl⟩) | (go_at_call 60; (with_reducible refine (H5.out).mono ?_); rintro e w' ⟨rfl, rfl⟩) | (go_at_call 69; (with_reducible refine (H6.out _).mono ?_); rintro e w' ⟨rfl, rfl⟩) | (go_at_call 62; (with_reducible refine (H7.out).mono ?_); rintro e w' ⟨rfl, rfl⟩) | (go_at_call 69; (with_reducible refine (H8.out _).mono ?_); rintro e w' ⟨rfl, rfl⟩) | (go_at_call 99; (with_reducible refine (H9.out _).mono ?_); rintro e w' ⟨rfl, rfl⟩) | (go_at_call 59; (with_reducible refine (H10.out _).mono ?_); rintro e w' ⟨rfl, rfl⟩) | (go_at_call 62; (with_reducible refine (H11.out).mono ?_); rintro e w' ⟨rfl, rfl⟩) | (go_at_call 101; (with_reducible refine (H15.out).mono ?_); rintro e w' ⟨rfl, rfl⟩) | (go_at_call 102; (with_reducible refine (H16.out _).mono ?_); rintro e w' ⟨rfl, rfl⟩) | (go_at_call 58; (with_reducible refine HADD.out.mono ?_); (rintro e6 w6 ⟨rfl, ⟨v6, hS6, hL6⟩, hb6, _⟩)))
    go_returns
    exact ⟨rfl, ⟨_, _, _, _, v6, _, hS6, hL6, (fun _ => ⟨rfl, rfl, rfl, rfl⟩), (fun h => absurd rfl h)⟩, hb6⟩
set_option maxRecDepth 100000 in
set_option maxHeartbeats 8000000 in
theorem rnum_n2p0e1 (B S a : Nat) (t : ByteArray) (r b : Int) (v : Value) (l : List Sy) (w : World) (hS : Rc w S t (a : Int) r v 0 b) (hL : Sl w B v l) (hB : B ≤ S) (hl : t.size ≤ 100000) (hll : l.length ≤ 1000000) (ha : a < t.size) (hd : bDi (pk t a) = true) (ql : List UInt8) (qe : Nat) (hq : rnF bDi bDi0 r t a = (ql, qe)) (hw1 : loA (pk t (sk t qe)) = 114) (hw2 : ltB r (pk t (sk t qe)) = false) (hp0 : pk t (sk t qe) ≠ 46) (z : ByteArray) (Z : Nat) (hz : exF r t qe = (z, Z)) (hz0 : z ≠ ⟨#[]⟩) :
    Calls Tryz.prog 61 #[.pointer (some ⟨S, 0, none⟩)] w (RPo B S t w (nuS r a l 4 (⟨ql.toArray⟩ ++ z) Z)) := by
  have hlt := hS.lt
  have c0 := hS.c0
  have c1 := hS.c1
  have c2 := hS.c2
  have HSR := Lib.hid hS
  have HLR := Lib.hid hL
  have hpa := (pk_in ha).symm
  have hqe : qe ≤ t.size := by have := rnF_end bDi bDi0 r t a (by omega); rw [hq] at this; exact this
  have hqa : ql.length ≤ 100000 := by have := rnF_len bDi bDi0 r t a; rw [hq] at this; simp only at this; omega
  have h1 := rdig_any t S a r w c0 hl (by omega) (ru_no (di_ch (r := r) hd).2)
  rw [hq] at h1
  have hk1 := sk_le hqe
  have h2 := behind_any t S qe w c0 hl (by omega)
  have h3 := behind_any t S (sk t qe + 1) w c0 hl (by omega)
  have h4 := at_any t S (sk t (sk t qe + 1)) w c0 hl (by have := sk_le1 (t := t) (i := sk t qe + 1) (by omega); omega)
  have h5 := at_any t S (sk t qe) w c0 hl (by omega)
  have hpb := pk_bd t (sk t qe)
  have hcb := pk_bd t (sk t (sk t qe + 1))
  obtain ⟨k, hk⟩ : ∃ k, sk t qe = k := ⟨_, rfl⟩
  rw [hk] at h2 h3 h4 h5 hpb hcb hk1 hw1 hw2 hp0
  obtain ⟨m, hm⟩ : ∃ m, sk t (k + 1) = m := ⟨_, rfl⟩
  rw [hm] at h3 h4 hcb
  rw [show ((k + 1 : Nat) : Int) = (k : Int) + 1 by omega] at h3
  obtain ⟨p, hp⟩ : ∃ p, pk t k = p := ⟨_, rfl⟩
  obtain ⟨c, hc⟩ : ∃ c, pk t m = c := ⟨_, rfl⟩
  rw [hp] at h5 hpb hw1 hw2 hp0
  rw [hc] at h4 hcb
  have h6 := fun w => rb_lo p w hpb.1 hpb.2
  have h7 := letter_any S r p w c2 hpb.1 hpb.2
  have h8 := fun w => rb_lo c w hcb.1 hcb.2
  have hlb := lo_bd hcb.1 hcb.2
  have h9 := fun w => rb_hx (loA c) w hlb.1 hlb.2
  have h10 := fun w => rb_di c w hcb.1 hcb.2
  have h11 := letter_any S r c w c2 hcb.1 hcb.2
  have hq48 : 48 ≤ pk t a ∧ pk t a ≤ 57 := of_decide_eq_true hd
  obtain ⟨pa, hpae⟩ : ∃ p, pk t a = p := ⟨_, rfl⟩
  rw [hpae] at hpa hq48
  have hpa2 : (pa != 46) = true := by rw [bne_iff_ne]; omega
  obtain ⟨d0, ds, hds⟩ : ∃ d ds, ql = d :: ds := by
    cases ql with
    | nil =>
      exfalso
      have h := (di_ch (r := r) hd)
      have hs : sk t a = a := ru_no h.2
      unfold rnF at hq
      rw [hs, rn_yes h.1] at hq
      cases hq
    | cons x xs => exact ⟨x, xs, rfl⟩
  subst hds
  have hdl : ds.length ≤ 100000 := by simp only [List.length_cons] at hqa; omega
  rw [hw1] at h6
  rw [hw2] at h7
  have hp0b : (p == 46) = false := by rw [beq_eq_false_iff_ne]; exact hp0
  have hel : qe ≤ t.size := by omega
  have h15 := rexp_any t S qe r w c0 c2 hl hel
  rw [hz] at h15
  have hzs : z.size ≤ 100002 := by have := exF_len r t qe; rw [hz] at this; simp only at this; omega
  have hzf : z.toList.isEmpty = false := full_bytes hz0
  obtain ⟨RR, hRR⟩ : ∃ R, nuS r a l 4 (⟨(d0 :: ds).toArray⟩ ++ z) Z = R := ⟨_, rfl⟩
  rw [hRR]
  unfold nuS at hRR
  have hsz : ∀ q : List UInt8, (ByteArray.mk q.toArray).size = q.length := fun q => by simp [ByteArray.size]
  have hXs : ((⟨(d0 :: ds).toArray⟩ ++ z) : ByteArray).size ≤ 1000000 := by
    have e3 : (⟨#[46]⟩ : ByteArray).size = 1 := rfl
    have e4 : (⟨#[]⟩ : ByteArray).size = 0 := rfl
    have e1 := hsz (d0 :: ds)
    simp only [List.length_cons] at e1
    (try simp only [ByteArray.size_append])
    omega
  clear hsz
  have H1 := Lib.hid h1
  have H2 := Lib.hid h2
  have H3 := Lib.hid h3
  have H4 := Lib.hid h4
  have H5 := Lib.hid h5
  have H6 := Lib.hid h6
  have H7 := Lib.hid h7
  have H8 := Lib.hid h8
  have H9 := Lib.hid h9
  have H10 := Lib.hid h10
  have H11 := Lib.hid h11
  have H15 := Lib.hid h15
  clear h1 h2 h3 h4 h5 h6 h7 h8 h9 h10 h11 h15 hS hL hq hk hm hp hc hpae hpb hcb hlb hd hz hw1 hw2 hz0 hp0
  by_cases h100 : 100 < lc (⟨(d0 :: ds).toArray⟩ ++ z) 0
  · have hRe : RR = ⟨r, (a : Int), l, (a : Int), 3⟩ := by rw [← hRR]; exact if_pos h100
    subst hRe
    have h16 := fun W => rsize_any (⟨(d0 :: ds).toArray⟩ ++ z) W hXs
    obtain ⟨n, hn⟩ : ∃ n, lc (⟨(d0 :: ds).toArray⟩ ++ z) 0 = n := ⟨_, rfl⟩
    rw [hn] at h16 h100
    have h100b : decide ((n : Int) > 100) = true := decide_eq_true (by omega)
    have H16 := Lib.hid h16
    have HFA := Lib.hid (fail_new S t (a : Int) r v b 3 (a : Int) w HSR.out)
    clear h16 hn hRR
    skip
    go_enter Tryz.func61, Tryz.ntmps61
    go_wp2_with (first | (go_at_call 97; (with_reducible refine (H1.out).mono ?_); rintro e w' ⟨rfl, rfl⟩) | (go_at_call 98; (with_reducible refine (H2.out).mono ?_); rintro e w' ⟨rfl, rfl⟩) | (go_at_call 98; (with_reducible refine (H3.out).mono ?_); rintro e w' ⟨rfl, rfl⟩) | (go_at_call 60; (with_reducible refine (H4.out).mono ?_); rintro e w' ⟨rfl, rfl⟩) | (go_at_call 60; (with_reducible refine (H5.out).mono ?_); rintro e w' ⟨rfl, rfl⟩) | (go_at_call 69; (with_reducible refine (H6.out _).mono ?_); rintro e w' ⟨rfl, rfl⟩) | (go_at_call 62; (with_reducible refine (H7.out).mono ?_); rintro e w' ⟨rfl, rfl⟩) | (go_at_call 69; (with_reducible refine (H8.out _).mono ?_); rintro e w' ⟨rfl, rfl⟩) | (go_at_call 99; (with_reducible refine (H9.out _).mono ?_); rintro e w' ⟨rfl, rfl⟩) | (go_at_call 59; (with_reducible refine (H10.out _).mono ?_); rintro e w' ⟨rfl, rfl⟩) | (go_at_call 62; (with_reducible refine (H11.out).mono ?_); rintro e w' ⟨rfl, rfl⟩) | (go_at_call 101; (with_reducible refine (H15.out).mono ?_); rintro e w' ⟨rfl, rfl⟩) | (go_at_call 102; (with_reducible refine (H16.out _).mono ?_); rintro e w' ⟨rfl, rfl⟩) | (go_at_call 54; (with_reducible refine HFA.out.mono ?_); (rintro e5 w5 ⟨rfl, hS5, hg5⟩); (have HADD := Lib.hid (radd_any B S t (a : Int) r v 3 (a : Int) 4 (a : Int) (Z : Int) (⟨(d0 :: ds).toArray⟩ ++ z) l w5 hS5 (HSR.out.slgb HLR.out hg5) hB hll))) | (go_at_call 58; (with_reducible refine HADD.out.mono ?_); (rintro e6 w6 ⟨rfl, ⟨v6, hS6, hL6⟩, hb6, _⟩)))
    go_returns
    exact ⟨rfl, ⟨_, _, _, _, v6, _, hS6, hL6, (fun h => absurd h (show ¬ ((3 : Int) = 0) by decide)), (fun _ => ⟨rfl, rfl⟩)⟩, (hg5.below hB (by omega)).trans hb6⟩
  · have hRe : RR = ⟨r, (Z : Int), l ++ [(4, (⟨(d0 :: ds).toArray⟩ ++ z), (a : Int))], 0, 0⟩ := by rw [← hRR]; exact if_neg h100
    subst hRe
    have h16 := fun W => rsize_any (⟨(d0 :: ds).toArray⟩ ++ z) W hXs
    obtain ⟨n, hn⟩ : ∃ n, lc (⟨(d0 :: ds).toArray⟩ ++ z) 0 = n := ⟨_, rfl⟩
    rw [hn] at h16 h100
    have h100b : decide ((n : Int) > 100) = false := decide_eq_false (by omega)
    have H16 := Lib.hid h16
    have HADD := Lib.hid (radd_any B S t (a : Int) r v 0 b 4 (a : Int) (Z : Int) (⟨(d0 :: ds).toArray⟩ ++ z) l w HSR.out HLR.out hB hll)
    clear h16 hn hRR
    skip
    go_enter Tryz.func61, Tryz.ntmps61
    go_wp2_with (first | (go_at_call 97; (with_reducible refine (H1.out).mono ?_); rintro e w' ⟨rfl, rfl⟩) | (go_at_call 98; (with_reducible refine (H2.out).mono ?_); rintro e w' ⟨rfl, rfl⟩) | (go_at_call 98; (with_reducible refine (H3.out).mono ?_); rintro e w' ⟨rfl, rfl⟩) | (go_at_call 60; (with_reducible refine (H4.out).mono ?_); rintro e w' ⟨rfl, rfl⟩) | (go_at_call 60; (with_reducible refine (H5.out).mono ?_); rintro e w' ⟨rfl, rfl⟩) | (go_at_call 69; (with_reducible refine (H6.out _).mono ?_); rintro e w' ⟨rfl, rfl⟩) | (go_at_call 62; (with_reducible refine (H7.out).mono ?_); rintro e w' ⟨rfl, rfl⟩) | (go_at_call 69; (with_reducible refine (H8.out _).mono ?_); rintro e w' ⟨rfl, rfl⟩) | (go_at_call 99; (with_reducible refine (H9.out _).mono ?_); rintro e w' ⟨rfl, rfl⟩) | (go_at_call 59; (with_reducible refine (H10.out _).mono ?_); rintro e w' ⟨rfl, rfl⟩) | (go_at_call 62; (with_reducible refine (H11.out).mono ?_); rintro e w' ⟨rfl, rfl⟩) | (go_at_call 101; (with_reducible refine (H15.out).mono ?_); rintro e w' ⟨rfl, rfl⟩) | (go_at_call 102; (with_reducible refine (H16.out _).mono ?_); rintro e w' ⟨rfl, rfl⟩) | (go_at_call 58; (with_reducible refine HADD.out.mono ?_); (rintro e6 w6 ⟨rfl, ⟨v6, hS6, hL6⟩, hb6, _⟩)))
    go_returns
    exact ⟨rfl, ⟨_, _, _, _, v6, _, hS6, hL6, (fun _ => ⟨rfl, rfl, rfl, rfl⟩), (fun h => absurd rfl h)⟩, hb6⟩
set_option maxRecDepth 100000 in
set_option maxHeartbeats 8000000 in
theorem rnum_n3p0e0 (B S a : Nat) (t : ByteArray) (r b : Int) (v : Value) (l : List Sy) (w : World) (hS : Rc w S t (a : Int) r v 0 b) (hL : Sl w B v l) (hB : B ≤ S) (hl : t.size ≤ 100000) (hll : l.length ≤ 1000000) (ha : a < t.size) (hd : bDi (pk t a) = true) (ql : List UInt8) (qe : Nat) (hq : rnF bDi bDi0 r t a = (ql, qe)) (hw1 : loA (pk t (sk t qe)) = 114) (hw2 : ltB r (pk t (sk t qe)) = true) (hw3 : hxA (loA (pk t (sk t (sk t qe + 1)))) < 0) (hp0 : pk t (sk t qe) ≠ 46) (z : ByteArray) (Z : Nat) (hz : exF r t qe = (z, Z)) (hz0 : z = ⟨#[]⟩) :
    Calls Tryz.prog 61 #[.pointer (some ⟨S, 0, none⟩)] w (RPo B S t w (nuS r a l 3 ⟨ql.toArray⟩ qe)) := by
  have hlt := hS.lt
  have c0 := hS.c0
  have c1 := hS.c1
  have c2 := hS.c2
  have HSR := Lib.hid hS
  have HLR := Lib.hid hL
  have hpa := (pk_in ha).symm
  have hqe : qe ≤ t.size := by have := rnF_end bDi bDi0 r t a (by omega); rw [hq] at this; exact this
  have hqa : ql.length ≤ 100000 := by have := rnF_len bDi bDi0 r t a; rw [hq] at this; simp only at this; omega
  have h1 := rdig_any t S a r w c0 hl (by omega) (ru_no (di_ch (r := r) hd).2)
  rw [hq] at h1
  have hk1 := sk_le hqe
  have h2 := behind_any t S qe w c0 hl (by omega)
  have h3 := behind_any t S (sk t qe + 1) w c0 hl (by omega)
  have h4 := at_any t S (sk t (sk t qe + 1)) w c0 hl (by have := sk_le1 (t := t) (i := sk t qe + 1) (by omega); omega)
  have h5 := at_any t S (sk t qe) w c0 hl (by omega)
  have hpb := pk_bd t (sk t qe)
  have hcb := pk_bd t (sk t (sk t qe + 1))
  obtain ⟨k, hk⟩ : ∃ k, sk t qe = k := ⟨_, rfl⟩
  rw [hk] at h2 h3 h4 h5 hpb hcb hk1 hw1 hw2 hw3 hp0
  obtain ⟨m, hm⟩ : ∃ m, sk t (k + 1) = m := ⟨_, rfl⟩
  rw [hm] at h3 h4 hcb hw3
  rw [show ((k + 1 : Nat) : Int) = (k : Int) + 1 by omega] at h3
  obtain ⟨p, hp⟩ : ∃ p, pk t k = p := ⟨_, rfl⟩
  obtain ⟨c, hc⟩ : ∃ c, pk t m = c := ⟨_, rfl⟩
  rw [hp] at h5 hpb hw1 hw2 hp0
  rw [hc] at h4 hcb hw3
  have h6 := fun w => rb_lo p w hpb.1 hpb.2
  have h7 := letter_any S r p w c2 hpb.1 hpb.2
  have h8 := fun w => rb_lo c w hcb.1 hcb.2
  have hlb := lo_bd hcb.1 hcb.2
  have h9 := fun w => rb_hx (loA c) w hlb.1 hlb.2
  have h10 := fun w => rb_di c w hcb.1 hcb.2
  have h11 := letter_any S r c w c2 hcb.1 hcb.2
  have hq48 : 48 ≤ pk t a ∧ pk t a ≤ 57 := of_decide_eq_true hd
  obtain ⟨pa, hpae⟩ : ∃ p, pk t a = p := ⟨_, rfl⟩
  rw [hpae] at hpa hq48
  have hpa2 : (pa != 46) = true := by rw [bne_iff_ne]; omega
  obtain ⟨d0, ds, hds⟩ : ∃ d ds, ql = d :: ds := by
    cases ql with
    | nil =>
      exfalso
      have h := (di_ch (r := r) hd)
      have hs : sk t a = a := ru_no h.2
      unfold rnF at hq
      rw [hs, rn_yes h.1] at hq
      cases hq
    | cons x xs => exact ⟨x, xs, rfl⟩
  subst hds
  have hdl : ds.length ≤ 100000 := by simp only [List.length_cons] at hqa; omega
  rw [hw1] at h6
  rw [hw2] at h7
  obtain ⟨u, hu⟩ : ∃ u, loA c = u := ⟨_, rfl⟩
  rw [hu] at h8 h9 hw3
  obtain ⟨g, hg⟩ : ∃ g, hxA u = g := ⟨_, rfl⟩
  rw [hg] at h9 hw3
  have hp0b : (p == 46) = false := by rw [beq_eq_false_iff_ne]; exact hp0
  have hel : qe ≤ t.size := by omega
  have h15 := rexp_any t S qe r w c0 c2 hl hel
  rw [hz] at h15
  have hzs : z.size ≤ 100002 := by have := exF_len r t qe; rw [hz] at this; simp only at this; omega
  subst hz0
  obtain ⟨RR, hRR⟩ : ∃ R, nuS r a l 3 ⟨(d0 :: ds).toArray⟩ qe = R := ⟨_, rfl⟩
  rw [hRR]
  unfold nuS at hRR
  have hsz : ∀ q : List UInt8, (ByteArray.mk q.toArray).size = q.length := fun q => by simp [ByteArray.size]
  have hXs : (⟨(d0 :: ds).toArray⟩ : ByteArray).size ≤ 1000000 := by
    have e3 : (⟨#[46]⟩ : ByteArray).size = 1 := rfl
    have e4 : (⟨#[]⟩ : ByteArray).size = 0 := rfl
    have e1 := hsz (d0 :: ds)
    simp only [List.length_cons] at e1
    (try simp only [ByteArray.size_append])
    omega
  clear hsz
  have H1 := Lib.hid h1
  have H2 := Lib.hid h2
  have H3 := Lib.hid h3
  have H4 := Lib.hid h4
  have H5 := Lib.hid h5
  have H6 := Lib.hid h6
  have H7 := Lib.hid h7
  have H8 := Lib.hid h8
  have H9 := Lib.hid h9
  have H10 := Lib.hid h10
  have H11 := Lib.hid h11
  have H15 := Lib.hid h15
  clear h1 h2 h3 h4 h5 h6 h7 h8 h9 h10 h11 h15 hS hL hq hk hm hp hc hpae hpb hcb hlb hd hz hu hg hw1 hw2 hp0
  by_cases h100 : 100 < lc ⟨(d0 :: ds).toArray⟩ 0
  · have hRe : RR = ⟨r, (a : Int), l, (a : Int), 3⟩ := by rw [← hRR]; exact if_pos h100
    subst hRe
    have h16 := fun W => rsize_any ⟨(d0 :: ds).toArray⟩ W hXs
    obtain ⟨n, hn⟩ : ∃ n, lc ⟨(d0 :: ds).toArray⟩ 0 = n := ⟨_, rfl⟩
    rw [hn] at h16 h100
    have h100b : decide ((n : Int) > 100) = true := decide_eq_true (by omega)
    have H16 := Lib.hid h16
    have HFA := Lib.hid (fail_new S t (a : Int) r v b 3 (a : Int) w HSR.out)
    clear h16 hn hRR
    skip
    go_enter Tryz.func61, Tryz.ntmps61
    go_wp2_with (first | (go_at_call 97; (with_reducible refine (H1.out).mono ?_); rintro e w' ⟨rfl, rfl⟩) | (go_at_call 98; (with_reducible refine (H2.out).mono ?_); rintro e w' ⟨rfl, rfl⟩) | (go_at_call 98; (with_reducible refine (H3.out).mono ?_); rintro e w' ⟨rfl, rfl⟩) | (go_at_call 60; (with_reducible refine (H4.out).mono ?_); rintro e w' ⟨rfl, rfl⟩) | (go_at_call 60; (with_reducible refine (H5.out).mono ?_); rintro e w' ⟨rfl, rfl⟩) | (go_at_call 69; (with_reducible refine (H6.out _).mono ?_); rintro e w' ⟨rfl, rfl⟩) | (go_at_call 62; (with_reducible refine (H7.out).mono ?_); rintro e w' ⟨rfl, rfl⟩) | (go_at_call 69; (with_reducible refine (H8.out _).mono ?_); rintro e w' ⟨rfl, rfl⟩) | (go_at_call 99; (with_reducible refine (H9.out _).mono ?_); rintro e w' ⟨rfl, rfl⟩) | (go_at_call 59; (with_reducible refine (H10.out _).mono ?_); rintro e w' ⟨rfl, rfl⟩) | (go_at_call 62; (with_reducible refine (H11.out).mono ?_); rintro e w' ⟨rfl, rfl⟩) | (go_at_call 101; (with_reducible refine (H15.out).mono ?_); rintro e w' ⟨rfl, rfl⟩) | (go_at_call 102; (with_reducible refine (H16.out _).mono ?_); rintro e w' ⟨rfl, rfl⟩) | (go_at_call 54; (with_reducible refine HFA.out.mono ?_); (rintro e5 w5 ⟨rfl, hS5, hg5⟩); (have HADD := Lib.hid (radd_any B S t (a : Int) r v 3 (a : Int) 3 (a : Int) (qe : Int) ⟨(d0 :: ds).toArray⟩ l w5 hS5 (HSR.out.slgb HLR.out hg5) hB hll))) | (go_at_call 58; (with_reducible refine HADD.out.mono ?_); (rintro e6 w6 ⟨rfl, ⟨v6, hS6, hL6⟩, hb6, _⟩)))
    go_returns
    exact ⟨rfl, ⟨_, _, _, _, v6, _, hS6, hL6, (fun h => absurd h (show ¬ ((3 : Int) = 0) by decide)), (fun _ => ⟨rfl, rfl⟩)⟩, (hg5.below hB (by omega)).trans hb6⟩
  · have hRe : RR = ⟨r, (qe : Int), l ++ [(3, ⟨(d0 :: ds).toArray⟩, (a : Int))], 0, 0⟩ := by rw [← hRR]; exact if_neg h100
    subst hRe
    have h16 := fun W => rsize_any ⟨(d0 :: ds).toArray⟩ W hXs
    obtain ⟨n, hn⟩ : ∃ n, lc ⟨(d0 :: ds).toArray⟩ 0 = n := ⟨_, rfl⟩
    rw [hn] at h16 h100
    have h100b : decide ((n : Int) > 100) = false := decide_eq_false (by omega)
    have H16 := Lib.hid h16
    have HADD := Lib.hid (radd_any B S t (a : Int) r v 0 b 3 (a : Int) (qe : Int) ⟨(d0 :: ds).toArray⟩ l w HSR.out HLR.out hB hll)
    clear h16 hn hRR
    skip
    go_enter Tryz.func61, Tryz.ntmps61
    go_wp2_with (first | (go_at_call 97; (with_reducible refine (H1.out).mono ?_); rintro e w' ⟨rfl, rfl⟩) | (go_at_call 98; (with_reducible refine (H2.out).mono ?_); rintro e w' ⟨rfl, rfl⟩) | (go_at_call 98; (with_reducible refine (H3.out).mono ?_); rintro e w' ⟨rfl, rfl⟩) | (go_at_call 60; (with_reducible refine (H4.out).mono ?_); rintro e w' ⟨rfl, rfl⟩) | (go_at_call 60; (with_reducible refine (H5.out).mono ?_); rintro e w' ⟨rfl, rfl⟩) | (go_at_call 69; (with_reducible refine (H6.out _).mono ?_); rintro e w' ⟨rfl, rfl⟩) | (go_at_call 62; (with_reducible refine (H7.out).mono ?_); rintro e w' ⟨rfl, rfl⟩) | (go_at_call 69; (with_reducible refine (H8.out _).mono ?_); rintro e w' ⟨rfl, rfl⟩) | (go_at_call 99; (with_reducible refine (H9.out _).mono ?_); rintro e w' ⟨rfl, rfl⟩) | (go_at_call 59; (with_reducible refine (H10.out _).mono ?_); rintro e w' ⟨rfl, rfl⟩) | (go_at_call 62; (with_reducible refine (H11.out).mono ?_); rintro e w' ⟨rfl, rfl⟩) | (go_at_call 101; (with_reducible refine (H15.out).mono ?_); rintro e w' ⟨rfl, rfl⟩) | (go_at_call 102; (with_reducible refine (H16.out _).mono ?_); rintro e w' ⟨rfl, rfl⟩) | (go_at_call 58; (with_reducible refine HADD.out.mono ?_); (rintro e6 w6 ⟨rfl, ⟨v6, hS6, hL6⟩, hb6, _⟩)))
    go_returns
    exact ⟨rfl, ⟨_, _, _, _, v6, _, hS6, hL6, (fun _ => ⟨rfl, rfl, rfl, rfl⟩), (fun h => absurd rfl h)⟩, hb6⟩
set_option maxRecDepth 100000 in
set_option maxHeartbeats 8000000 in
theorem rnum_n3p0e1 (B S a : Nat) (t : ByteArray) (r b : Int) (v : Value) (l : List Sy) (w : World) (hS : Rc w S t (a : Int) r v 0 b) (hL : Sl w B v l) (hB : B ≤ S) (hl : t.size ≤ 100000) (hll : l.length ≤ 1000000) (ha : a < t.size) (hd : bDi (pk t a) = true) (ql : List UInt8) (qe : Nat) (hq : rnF bDi bDi0 r t a = (ql, qe)) (hw1 : loA (pk t (sk t qe)) = 114) (hw2 : ltB r (pk t (sk t qe)) = true) (hw3 : hxA (loA (pk t (sk t (sk t qe + 1)))) < 0) (hp0 : pk t (sk t qe) ≠ 46) (z : ByteArray) (Z : Nat) (hz : exF r t qe = (z, Z)) (hz0 : z ≠ ⟨#[]⟩) :
    Calls Tryz.prog 61 #[.pointer (some ⟨S, 0, none⟩)] w (RPo B S t w (nuS r a l 4 (⟨ql.toArray⟩ ++ z) Z)) := by
  have hlt := hS.lt
  have c0 := hS.c0
  have c1 := hS.c1
  have c2 := hS.c2
  have HSR := Lib.hid hS
  have HLR := Lib.hid hL
  have hpa := (pk_in ha).symm
  have hqe : qe ≤ t.size := by have := rnF_end bDi bDi0 r t a (by omega); rw [hq] at this; exact this
  have hqa : ql.length ≤ 100000 := by have := rnF_len bDi bDi0 r t a; rw [hq] at this; simp only at this; omega
  have h1 := rdig_any t S a r w c0 hl (by omega) (ru_no (di_ch (r := r) hd).2)
  rw [hq] at h1
  have hk1 := sk_le hqe
  have h2 := behind_any t S qe w c0 hl (by omega)
  have h3 := behind_any t S (sk t qe + 1) w c0 hl (by omega)
  have h4 := at_any t S (sk t (sk t qe + 1)) w c0 hl (by have := sk_le1 (t := t) (i := sk t qe + 1) (by omega); omega)
  have h5 := at_any t S (sk t qe) w c0 hl (by omega)
  have hpb := pk_bd t (sk t qe)
  have hcb := pk_bd t (sk t (sk t qe + 1))
  obtain ⟨k, hk⟩ : ∃ k, sk t qe = k := ⟨_, rfl⟩
  rw [hk] at h2 h3 h4 h5 hpb hcb hk1 hw1 hw2 hw3 hp0
  obtain ⟨m, hm⟩ : ∃ m, sk t (k + 1) = m := ⟨_, rfl⟩
  rw [hm] at h3 h4 hcb hw3
  rw [show ((k + 1 : Nat) : Int) = (k : Int) + 1 by omega] at h3
  obtain ⟨p, hp⟩ : ∃ p, pk t k = p := ⟨_, rfl⟩
  obtain ⟨c, hc⟩ : ∃ c, pk t m = c := ⟨_, rfl⟩
  rw [hp] at h5 hpb hw1 hw2 hp0
  rw [hc] at h4 hcb hw3
  have h6 := fun w => rb_lo p w hpb.1 hpb.2
  have h7 := letter_any S r p w c2 hpb.1 hpb.2
  have h8 := fun w => rb_lo c w hcb.1 hcb.2
  have hlb := lo_bd hcb.1 hcb.2
  have h9 := fun w => rb_hx (loA c) w hlb.1 hlb.2
  have h10 := fun w => rb_di c w hcb.1 hcb.2
  have h11 := letter_any S r c w c2 hcb.1 hcb.2
  have hq48 : 48 ≤ pk t a ∧ pk t a ≤ 57 := of_decide_eq_true hd
  obtain ⟨pa, hpae⟩ : ∃ p, pk t a = p := ⟨_, rfl⟩
  rw [hpae] at hpa hq48
  have hpa2 : (pa != 46) = true := by rw [bne_iff_ne]; omega
  obtain ⟨d0, ds, hds⟩ : ∃ d ds, ql = d :: ds := by
    cases ql with
    | nil =>
      exfalso
      have h := (di_ch (r := r) hd)
      have hs : sk t a = a := ru_no h.2
      unfold rnF at hq
      rw [hs, rn_yes h.1] at hq
      cases hq
    | cons x xs => exact ⟨x, xs, rfl⟩
  subst hds
  have hdl : ds.length ≤ 100000 := by simp only [List.length_cons] at hqa; omega
  rw [hw1] at h6
  rw [hw2] at h7
  obtain ⟨u, hu⟩ : ∃ u, loA c = u := ⟨_, rfl⟩
  rw [hu] at h8 h9 hw3
  obtain ⟨g, hg⟩ : ∃ g, hxA u = g := ⟨_, rfl⟩
  rw [hg] at h9 hw3
  have hp0b : (p == 46) = false := by rw [beq_eq_false_iff_ne]; exact hp0
  have hel : qe ≤ t.size := by omega
  have h15 := rexp_any t S qe r w c0 c2 hl hel
  rw [hz] at h15
  have hzs : z.size ≤ 100002 := by have := exF_len r t qe; rw [hz] at this; simp only at this; omega
  have hzf : z.toList.isEmpty = false := full_bytes hz0
  obtain ⟨RR, hRR⟩ : ∃ R, nuS r a l 4 (⟨(d0 :: ds).toArray⟩ ++ z) Z = R := ⟨_, rfl⟩
  rw [hRR]
  unfold nuS at hRR
  have hsz : ∀ q : List UInt8, (ByteArray.mk q.toArray).size = q.length := fun q => by simp [ByteArray.size]
  have hXs : ((⟨(d0 :: ds).toArray⟩ ++ z) : ByteArray).size ≤ 1000000 := by
    have e3 : (⟨#[46]⟩ : ByteArray).size = 1 := rfl
    have e4 : (⟨#[]⟩ : ByteArray).size = 0 := rfl
    have e1 := hsz (d0 :: ds)
    simp only [List.length_cons] at e1
    (try simp only [ByteArray.size_append])
    omega
  clear hsz
  have H1 := Lib.hid h1
  have H2 := Lib.hid h2
  have H3 := Lib.hid h3
  have H4 := Lib.hid h4
  have H5 := Lib.hid h5
  have H6 := Lib.hid h6
  have H7 := Lib.hid h7
  have H8 := Lib.hid h8
  have H9 := Lib.hid h9
  have H10 := Lib.hid h10
  have H11 := Lib.hid h11
  have H15 := Lib.hid h15
  clear h1 h2 h3 h4 h5 h6 h7 h8 h9 h10 h11 h15 hS hL hq hk hm hp hc hpae hpb hcb hlb hd hz hu hg hw1 hw2 hz0 hp0
  by_cases h100 : 100 < lc (⟨(d0 :: ds).toArray⟩ ++ z) 0
  · have hRe : RR = ⟨r, (a : Int), l, (a : Int), 3⟩ := by rw [← hRR]; exact if_pos h100
    subst hRe
    have h16 := fun W => rsize_any (⟨(d0 :: ds).toArray⟩ ++ z) W hXs
    obtain ⟨n, hn⟩ : ∃ n, lc (⟨(d0 :: ds).toArray⟩ ++ z) 0 = n := ⟨_, rfl⟩
    rw [hn] at h16 h100
    have h100b : decide ((n : Int) > 100) = true := decide_eq_true (by omega)
    have H16 := Lib.hid h16
    have HFA := Lib.hid (fail_new S t (a : Int) r v b 3 (a : Int) w HSR.out)
    clear h16 hn hRR
    skip
    go_enter Tryz.func61, Tryz.ntmps61
    go_wp2_with (first | (go_at_call 97; (with_reducible refine (H1.out).mono ?_); rintro e w' ⟨rfl, rfl⟩) | (go_at_call 98; (with_reducible refine (H2.out).mono ?_); rintro e w' ⟨rfl, rfl⟩) | (go_at_call 98; (with_reducible refine (H3.out).mono ?_); rintro e w' ⟨rfl, rfl⟩) | (go_at_call 60; (with_reducible refine (H4.out).mono ?_); rintro e w' ⟨rfl, rfl⟩) | (go_at_call 60; (with_reducible refine (H5.out).mono ?_); rintro e w' ⟨rfl, rfl⟩) | (go_at_call 69; (with_reducible refine (H6.out _).mono ?_); rintro e w' ⟨rfl, rfl⟩) | (go_at_call 62; (with_reducible refine (H7.out).mono ?_); rintro e w' ⟨rfl, rfl⟩) | (go_at_call 69; (with_reducible refine (H8.out _).mono ?_); rintro e w' ⟨rfl, rfl⟩) | (go_at_call 99; (with_reducible refine (H9.out _).mono ?_); rintro e w' ⟨rfl, rfl⟩) | (go_at_call 59; (with_reducible refine (H10.out _).mono ?_); rintro e w' ⟨rfl, rfl⟩) | (go_at_call 62; (with_reducible refine (H11.out).mono ?_); rintro e w' ⟨rfl, rfl⟩) | (go_at_call 101; (with_reducible refine (H15.out).mono ?_); rintro e w' ⟨rfl, rfl⟩) | (go_at_call 102; (with_reducible refine (H16.out _).mono ?_); rintro e w' ⟨rfl, rfl⟩) | (go_at_call 54; (with_reducible refine HFA.out.mono ?_); (rintro e5 w5 ⟨rfl, hS5, hg5⟩); (have HADD := Lib.hid (radd_any B S t (a : Int) r v 3 (a : Int) 4 (a : Int) (Z : Int) (⟨(d0 :: ds).toArray⟩ ++ z) l w5 hS5 (HSR.out.slgb HLR.out hg5) hB hll))) | (go_at_call 58; (with_reducible refine HADD.out.mono ?_); (rintro e6 w6 ⟨rfl, ⟨v6, hS6, hL6⟩, hb6, _⟩)))
    go_returns
    exact ⟨rfl, ⟨_, _, _, _, v6, _, hS6, hL6, (fun h => absurd h (show ¬ ((3 : Int) = 0) by decide)), (fun _ => ⟨rfl, rfl⟩)⟩, (hg5.below hB (by omega)).trans hb6⟩
  · have hRe : RR = ⟨r, (Z : Int), l ++ [(4, (⟨(d0 :: ds).toArray⟩ ++ z), (a : Int))], 0, 0⟩ := by rw [← hRR]; exact if_neg h100
    subst hRe
    have h16 := fun W => rsize_any (⟨(d0 :: ds).toArray⟩ ++ z) W hXs
    obtain ⟨n, hn⟩ : ∃ n, lc (⟨(d0 :: ds).toArray⟩ ++ z) 0 = n := ⟨_, rfl⟩
    rw [hn] at h16 h100
    have h100b : decide ((n : Int) > 100) = false := decide_eq_false (by omega)
    have H16 := Lib.hid h16
    have HADD := Lib.hid (radd_any B S t (a : Int) r v 0 b 4 (a : Int) (Z : Int) (⟨(d0 :: ds).toArray⟩ ++ z) l w HSR.out HLR.out hB hll)
    clear h16 hn hRR
    skip
    go_enter Tryz.func61, Tryz.ntmps61
    go_wp2_with (first | (go_at_call 97; (with_reducible refine (H1.out).mono ?_); rintro e w' ⟨rfl, rfl⟩) | (go_at_call 98; (with_reducible refine (H2.out).mono ?_); rintro e w' ⟨rfl, rfl⟩) | (go_at_call 98; (with_reducible refine (H3.out).mono ?_); rintro e w' ⟨rfl, rfl⟩) | (go_at_call 60; (with_reducible refine (H4.out).mono ?_); rintro e w' ⟨rfl, rfl⟩) | (go_at_call 60; (with_reducible refine (H5.out).mono ?_); rintro e w' ⟨rfl, rfl⟩) | (go_at_call 69; (with_reducible refine (H6.out _).mono ?_); rintro e w' ⟨rfl, rfl⟩) | (go_at_call 62; (with_reducible refine (H7.out).mono ?_); rintro e w' ⟨rfl, rfl⟩) | (go_at_call 69; (with_reducible refine (H8.out _).mono ?_); rintro e w' ⟨rfl, rfl⟩) | (go_at_call 99; (with_reducible refine (H9.out _).mono ?_); rintro e w' ⟨rfl, rfl⟩) | (go_at_call 59; (with_reducible refine (H10.out _).mono ?_); rintro e w' ⟨rfl, rfl⟩) | (go_at_call 62; (with_reducible refine (H11.out).mono ?_); rintro e w' ⟨rfl, rfl⟩) | (go_at_call 101; (with_reducible refine (H15.out).mono ?_); rintro e w' ⟨rfl, rfl⟩) | (go_at_call 102; (with_reducible refine (H16.out _).mono ?_); rintro e w' ⟨rfl, rfl⟩) | (go_at_call 58; (with_reducible refine HADD.out.mono ?_); (rintro e6 w6 ⟨rfl, ⟨v6, hS6, hL6⟩, hb6, _⟩)))
    go_returns
    exact ⟨rfl, ⟨_, _, _, _, v6, _, hS6, hL6, (fun _ => ⟨rfl, rfl, rfl, rfl⟩), (fun h => absurd rfl h)⟩, hb6⟩
set_option maxRecDepth 100000 in
set_option maxHeartbeats 8000000 in
theorem rnum_n4p0e0 (B S a : Nat) (t : ByteArray) (r b : Int) (v : Value) (l : List Sy) (w : World) (hS : Rc w S t (a : Int) r v 0 b) (hL : Sl w B v l) (hB : B ≤ S) (hl : t.size ≤ 100000) (hll : l.length ≤ 1000000) (ha : a < t.size) (hd : bDi (pk t a) = true) (ql : List UInt8) (qe : Nat) (hq : rnF bDi bDi0 r t a = (ql, qe)) (hw1 : loA (pk t (sk t qe)) = 114) (hw2 : ltB r (pk t (sk t qe)) = true) (hw3 : 0 ≤ hxA (loA (pk t (sk t (sk t qe + 1))))) (hw4 : bDi (pk t (sk t (sk t qe + 1))) = false) (hw5 : ltB r (pk t (sk t (sk t qe + 1))) = false) (hp0 : pk t (sk t qe) ≠ 46) (z : ByteArray) (Z : Nat) (hz : exF r t qe = (z, Z)) (hz0 : z = ⟨#[]⟩) :
    Calls Tryz.prog 61 #[.pointer (some ⟨S, 0, none⟩)] w (RPo B S t w (nuS r a l 3 ⟨ql.toArray⟩ qe)) := by
  have hlt := hS.lt
  have c0 := hS.c0
  have c1 := hS.c1
  have c2 := hS.c2
  have HSR := Lib.hid hS
  have HLR := Lib.hid hL
  have hpa := (pk_in ha).symm
  have hqe : qe ≤ t.size := by have := rnF_end bDi bDi0 r t a (by omega); rw [hq] at this; exact this
  have hqa : ql.length ≤ 100000 := by have := rnF_len bDi bDi0 r t a; rw [hq] at this; simp only at this; omega
  have h1 := rdig_any t S a r w c0 hl (by omega) (ru_no (di_ch (r := r) hd).2)
  rw [hq] at h1
  have hk1 := sk_le hqe
  have h2 := behind_any t S qe w c0 hl (by omega)
  have h3 := behind_any t S (sk t qe + 1) w c0 hl (by omega)
  have h4 := at_any t S (sk t (sk t qe + 1)) w c0 hl (by have := sk_le1 (t := t) (i := sk t qe + 1) (by omega); omega)
  have h5 := at_any t S (sk t qe) w c0 hl (by omega)
  have hpb := pk_bd t (sk t qe)
  have hcb := pk_bd t (sk t (sk t qe + 1))
  obtain ⟨k, hk⟩ : ∃ k, sk t qe = k := ⟨_, rfl⟩
  rw [hk] at h2 h3 h4 h5 hpb hcb hk1 hw1 hw2 hw3 hw4 hw5 hp0
  obtain ⟨m, hm⟩ : ∃ m, sk t (k + 1) = m := ⟨_, rfl⟩
  rw [hm] at h3 h4 hcb hw3 hw4 hw5
  rw [show ((k + 1 : Nat) : Int) = (k : Int) + 1 by omega] at h3
  obtain ⟨p, hp⟩ : ∃ p, pk t k = p := ⟨_, rfl⟩
  obtain ⟨c, hc⟩ : ∃ c, pk t m = c := ⟨_, rfl⟩
  rw [hp] at h5 hpb hw1 hw2 hp0
  rw [hc] at h4 hcb hw3 hw4 hw5
  have h6 := fun w => rb_lo p w hpb.1 hpb.2
  have h7 := letter_any S r p w c2 hpb.1 hpb.2
  have h8 := fun w => rb_lo c w hcb.1 hcb.2
  have hlb := lo_bd hcb.1 hcb.2
  have h9 := fun w => rb_hx (loA c) w hlb.1 hlb.2
  have h10 := fun w => rb_di c w hcb.1 hcb.2
  have h11 := letter_any S r c w c2 hcb.1 hcb.2
  have hq48 : 48 ≤ pk t a ∧ pk t a ≤ 57 := of_decide_eq_true hd
  obtain ⟨pa, hpae⟩ : ∃ p, pk t a = p := ⟨_, rfl⟩
  rw [hpae] at hpa hq48
  have hpa2 : (pa != 46) = true := by rw [bne_iff_ne]; omega
  obtain ⟨d0, ds, hds⟩ : ∃ d ds, ql = d :: ds := by
    cases ql with
    | nil =>
      exfalso
      have h := (di_ch (r := r) hd)
      have hs : sk t a = a := ru_no h.2
      unfold rnF at hq
      rw [hs, rn_yes h.1] at hq
      cases hq
    | cons x xs => exact ⟨x, xs, rfl⟩
  subst hds
  have hdl : ds.length ≤ 100000 := by simp only [List.length_cons] at hqa; omega
  rw [hw1] at h6
  rw [hw2] at h7
  rw [hw4] at h10
  rw [hw5] at h11
  obtain ⟨u, hu⟩ : ∃ u, loA c = u := ⟨_, rfl⟩
  rw [hu] at h8 h9 hw3
  obtain ⟨g, hg⟩ : ∃ g, hxA u = g := ⟨_, rfl⟩
  rw [hg] at h9 hw3
  have hp0b : (p == 46) = false := by rw [beq_eq_false_iff_ne]; exact hp0
  have hel : qe ≤ t.size := by omega
  have h15 := rexp_any t S qe r w c0 c2 hl hel
  rw [hz] at h15
  have hzs : z.size ≤ 100002 := by have := exF_len r t qe; rw [hz] at this; simp only at this; omega
  subst hz0
  obtain ⟨RR, hRR⟩ : ∃ R, nuS r a l 3 ⟨(d0 :: ds).toArray⟩ qe = R := ⟨_, rfl⟩
  rw [hRR]
  unfold nuS at hRR
  have hsz : ∀ q : List UInt8, (ByteArray.mk q.toArray).size = q.length := fun q => by simp [ByteArray.size]
  have hXs : (⟨(d0 :: ds).toArray⟩ : ByteArray).size ≤ 1000000 := by
    have e3 : (⟨#[46]⟩ : ByteArray).size = 1 := rfl
    have e4 : (⟨#[]⟩ : ByteArray).size = 0 := rfl
    have e1 := hsz (d0 :: ds)
    simp only [List.length_cons] at e1
    (try simp only [ByteArray.size_append])
    omega
  clear hsz
  have H1 := Lib.hid h1
  have H2 := Lib.hid h2
  have H3 := Lib.hid h3
  have H4 := Lib.hid h4
  have H5 := Lib.hid h5
  have H6 := Lib.hid h6
  have H7 := Lib.hid h7
  have H8 := Lib.hid h8
  have H9 := Lib.hid h9
  have H10 := Lib.hid h10
  have H11 := Lib.hid h11
  have H15 := Lib.hid h15
  clear h1 h2 h3 h4 h5 h6 h7 h8 h9 h10 h11 h15 hS hL hq hk hm hp hc hpae hpb hcb hlb hd hz hu hg hw1 hw2 hw4 hw5 hp0
  by_cases h100 : 100 < lc ⟨(d0 :: ds).toArray⟩ 0
  · have hRe : RR = ⟨r, (a : Int), l, (a : Int), 3⟩ := by rw [← hRR]; exact if_pos h100
    subst hRe
    have h16 := fun W => rsize_any ⟨(d0 :: ds).toArray⟩ W hXs
    obtain ⟨n, hn⟩ : ∃ n, lc ⟨(d0 :: ds).toArray⟩ 0 = n := ⟨_, rfl⟩
    rw [hn] at h16 h100
    have h100b : decide ((n : Int) > 100) = true := decide_eq_true (by omega)
    have H16 := Lib.hid h16
    have HFA := Lib.hid (fail_new S t (a : Int) r v b 3 (a : Int) w HSR.out)
    clear h16 hn hRR
    skip
    go_enter Tryz.func61, Tryz.ntmps61
    go_wp2_with (first | (go_at_call 97; (with_reducible refine (H1.out).mono ?_); rintro e w' ⟨rfl, rfl⟩) | (go_at_call 98; (with_reducible refine (H2.out).mono ?_); rintro e w' ⟨rfl, rfl⟩) | (go_at_call 98; (with_reducible refine (H3.out).mono ?_); rintro e w' ⟨rfl, rfl⟩) | (go_at_call 60; (with_reducible refine (H4.out).mono ?_); rintro e w' ⟨rfl, rfl⟩) | (go_at_call 60; (with_reducible refine (H5.out).mono ?_); rintro e w' ⟨rfl, rfl⟩) | (go_at_call 69; (with_reducible refine (H6.out _).mono ?_); rintro e w' ⟨rfl, rfl⟩) | (go_at_call 62; (with_reducible refine (H7.out).mono ?_); rintro e w' ⟨rfl, rfl⟩) | (go_at_call 69; (with_reducible refine (H8.out _).mono ?_); rintro e w' ⟨rfl, rfl⟩) | (go_at_call 99; (with_reducible refine (H9.out _).mono ?_); rintro e w' ⟨rfl, rfl⟩) | (go_at_call 59; (with_reducible refine (H10.out _).mono ?_); rintro e w' ⟨rfl, rfl⟩) | (go_at_call 62; (with_reducible refine (H11.out).mono ?_); rintro e w' ⟨rfl, rfl⟩) | (go_at_call 101; (with_reducible refine (H15.out).mono ?_); rintro e w' ⟨rfl, rfl⟩) | (go_at_call 102; (with_reducible refine (H16.out _).mono ?_); rintro e w' ⟨rfl, rfl⟩) | (go_at_call 54; (with_reducible refine HFA.out.mono ?_); (rintro e5 w5 ⟨rfl, hS5, hg5⟩); (have HADD := Lib.hid (radd_any B S t (a : Int) r v 3 (a : Int) 3 (a : Int) (qe : Int) ⟨(d0 :: ds).toArray⟩ l w5 hS5 (HSR.out.slgb HLR.out hg5) hB hll))) | (go_at_call 58; (with_reducible refine HADD.out.mono ?_); (rintro e6 w6 ⟨rfl, ⟨v6, hS6, hL6⟩, hb6, _⟩)))
    go_returns
    exact ⟨rfl, ⟨_, _, _, _, v6, _, hS6, hL6, (fun h => absurd h (show ¬ ((3 : Int) = 0) by decide)), (fun _ => ⟨rfl, rfl⟩)⟩, (hg5.below hB (by omega)).trans hb6⟩
  · have hRe : RR = ⟨r, (qe : Int), l ++ [(3, ⟨(d0 :: ds).toArray⟩, (a : Int))], 0, 0⟩ := by rw [← hRR]; exact if_neg h100
    subst hRe
    have h16 := fun W => rsize_any ⟨(d0 :: ds).toArray⟩ W hXs
    obtain ⟨n, hn⟩ : ∃ n, lc ⟨(d0 :: ds).toArray⟩ 0 = n := ⟨_, rfl⟩
    rw [hn] at h16 h100
    have h100b : decide ((n : Int) > 100) = false := decide_eq_false (by omega)
    have H16 := Lib.hid h16
    have HADD := Lib.hid (radd_any B S t (a : Int) r v 0 b 3 (a : Int) (qe : Int) ⟨(d0 :: ds).toArray⟩ l w HSR.out HLR.out hB hll)
    clear h16 hn hRR
    skip
    go_enter Tryz.func61, Tryz.ntmps61
    go_wp2_with (first | (go_at_call 97; (with_reducible refine (H1.out).mono ?_); rintro e w' ⟨rfl, rfl⟩) | (go_at_call 98; (with_reducible refine (H2.out).mono ?_); rintro e w' ⟨rfl, rfl⟩) | (go_at_call 98; (with_reducible refine (H3.out).mono ?_); rintro e w' ⟨rfl, rfl⟩) | (go_at_call 60; (with_reducible refine (H4.out).mono ?_); rintro e w' ⟨rfl, rfl⟩) | (go_at_call 60; (with_reducible refine (H5.out).mono ?_); rintro e w' ⟨rfl, rfl⟩) | (go_at_call 69; (with_reducible refine (H6.out _).mono ?_); rintro e w' ⟨rfl, rfl⟩) | (go_at_call 62; (with_reducible refine (H7.out).mono ?_); rintro e w' ⟨rfl, rfl⟩) | (go_at_call 69; (with_reducible refine (H8.out _).mono ?_); rintro e w' ⟨rfl, rfl⟩) | (go_at_call 99; (with_reducible refine (H9.out _).mono ?_); rintro e w' ⟨rfl, rfl⟩) | (go_at_call 59; (with_reducible refine (H10.out _).mono ?_); rintro e w' ⟨rfl, rfl⟩) | (go_at_call 62; (with_reducible refine (H11.out).mono ?_); rintro e w' ⟨rfl, rfl⟩) | (go_at_call 101; (with_reducible refine (H15.out).mono ?_); rintro e w' ⟨rfl, rfl⟩) | (go_at_call 102; (with_reducible refine (H16.out _).mono ?_); rintro e w' ⟨rfl, rfl⟩) | (go_at_call 58; (with_reducible refine HADD.out.mono ?_); (rintro e6 w6 ⟨rfl, ⟨v6, hS6, hL6⟩, hb6, _⟩)))
    go_returns
    exact ⟨rfl, ⟨_, _, _, _, v6, _, hS6, hL6, (fun _ => ⟨rfl, rfl, rfl, rfl⟩), (fun h => absurd rfl h)⟩, hb6⟩
set_option maxRecDepth 100000 in
set_option maxHeartbeats 8000000 in
theorem rnum_n4p0e1 (B S a : Nat) (t : ByteArray) (r b : Int) (v : Value) (l : List Sy) (w : World) (hS : Rc w S t (a : Int) r v 0 b) (hL : Sl w B v l) (hB : B ≤ S) (hl : t.size ≤ 100000) (hll : l.length ≤ 1000000) (ha : a < t.size) (hd : bDi (pk t a) = true) (ql : List UInt8) (qe : Nat) (hq : rnF bDi bDi0 r t a = (ql, qe)) (hw1 : loA (pk t (sk t qe)) = 114) (hw2 : ltB r (pk t (sk t qe)) = true) (hw3 : 0 ≤ hxA (loA (pk t (sk t (sk t qe + 1))))) (hw4 : bDi (pk t (sk t (sk t qe + 1))) = false) (hw5 : ltB r (pk t (sk t (sk t qe + 1))) = false) (hp0 : pk t (sk t qe) ≠ 46) (z : ByteArray) (Z : Nat) (hz : exF r t qe = (z, Z)) (hz0 : z ≠ ⟨#[]⟩) :
    Calls Tryz.prog 61 #[.pointer (some ⟨S, 0, none⟩)] w (RPo B S t w (nuS r a l 4 (⟨ql.toArray⟩ ++ z) Z)) := by
  have hlt := hS.lt
  have c0 := hS.c0
  have c1 := hS.c1
  have c2 := hS.c2
  have HSR := Lib.hid hS
  have HLR := Lib.hid hL
  have hpa := (pk_in ha).symm
  have hqe : qe ≤ t.size := by have := rnF_end bDi bDi0 r t a (by omega); rw [hq] at this; exact this
  have hqa : ql.length ≤ 100000 := by have := rnF_len bDi bDi0 r t a; rw [hq] at this; simp only at this; omega
  have h1 := rdig_any t S a r w c0 hl (by omega) (ru_no (di_ch (r := r) hd).2)
  rw [hq] at h1
  have hk1 := sk_le hqe
  have h2 := behind_any t S qe w c0 hl (by omega)
  have h3 := behind_any t S (sk t qe + 1) w c0 hl (by omega)
  have h4 := at_any t S (sk t (sk t qe + 1)) w c0 hl (by have := sk_le1 (t := t) (i := sk t qe + 1) (by omega); omega)
  have h5 := at_any t S (sk t qe) w c0 hl (by omega)
  have hpb := pk_bd t (sk t qe)
  have hcb := pk_bd t (sk t (sk t qe + 1))
  obtain ⟨k, hk⟩ : ∃ k, sk t qe = k := ⟨_, rfl⟩
  rw [hk] at h2 h3 h4 h5 hpb hcb hk1 hw1 hw2 hw3 hw4 hw5 hp0
  obtain ⟨m, hm⟩ : ∃ m, sk t (k + 1) = m := ⟨_, rfl⟩
  rw [hm] at h3 h4 hcb hw3 hw4 hw5
  rw [show ((k + 1 : Nat) : Int) = (k : Int) + 1 by omega] at h3
  obtain ⟨p, hp⟩ : ∃ p, pk t k = p := ⟨_, rfl⟩
  obtain ⟨c, hc⟩ : ∃ c, pk t m = c := ⟨_, rfl⟩
  rw [hp] at h5 hpb hw1 hw2 hp0
  rw [hc] at h4 hcb hw3 hw4 hw5
  have h6 := fun w => rb_lo p w hpb.1 hpb.2
  have h7 := letter_any S r p w c2 hpb.1 hpb.2
  have h8 := fun w => rb_lo c w hcb.1 hcb.2
  have hlb := lo_bd hcb.1 hcb.2
  have h9 := fun w => rb_hx (loA c) w hlb.1 hlb.2
  have h10 := fun w => rb_di c w hcb.1 hcb.2
  have h11 := letter_any S r c w c2 hcb.1 hcb.2
  have hq48 : 48 ≤ pk t a ∧ pk t a ≤ 57 := of_decide_eq_true hd
  obtain ⟨pa, hpae⟩ : ∃ p, pk t a = p := ⟨_, rfl⟩
  rw [hpae] at hpa hq48
  have hpa2 : (pa != 46) = true := by rw [bne_iff_ne]; omega
  obtain ⟨d0, ds, hds⟩ : ∃ d ds, ql = d :: ds := by
    cases ql with
    | nil =>
      exfalso
      have h := (di_ch (r := r) hd)
      have hs : sk t a = a := ru_no h.2
      unfold rnF at hq
      rw [hs, rn_yes h.1] at hq
      cases hq
    | cons x xs => exact ⟨x, xs, rfl⟩
  subst hds
  have hdl : ds.length ≤ 100000 := by simp only [List.length_cons] at hqa; omega
  rw [hw1] at h6
  rw [hw2] at h7
  rw [hw4] at h10
  rw [hw5] at h11
  obtain ⟨u, hu⟩ : ∃ u, loA c = u := ⟨_, rfl⟩
  rw [hu] at h8 h9 hw3
  obtain ⟨g, hg⟩ : ∃ g, hxA u = g := ⟨_, rfl⟩
  rw [hg] at h9 hw3
  have hp0b : (p == 46) = false := by rw [beq_eq_false_iff_ne]; exact hp0
  have hel : qe ≤ t.size := by omega
  have h15 := rexp_any t S qe r w c0 c2 hl hel
  rw [hz] at h15
  have hzs : z.size ≤ 100002 := by have := exF_len r t qe; rw [hz] at this; simp only at this; omega
  have hzf : z.toList.isEmpty = false := full_bytes hz0
  obtain ⟨RR, hRR⟩ : ∃ R, nuS r a l 4 (⟨(d0 :: ds).toArray⟩ ++ z) Z = R := ⟨_, rfl⟩
  rw [hRR]
  unfold nuS at hRR
  have hsz : ∀ q : List UInt8, (ByteArray.mk q.toArray).size = q.length := fun q => by simp [ByteArray.size]
  have hXs : ((⟨(d0 :: ds).toArray⟩ ++ z) : ByteArray).size ≤ 1000000 := by
    have e3 : (⟨#[46]⟩ : ByteArray).size = 1 := rfl
    have e4 : (⟨#[]⟩ : ByteArray).size = 0 := rfl
    have e1 := hsz (d0 :: ds)
    simp only [List.length_cons] at e1
    (try simp only [ByteArray.size_append])
    omega
  clear hsz
  have H1 := Lib.hid h1
  have H2 := Lib.hid h2
  have H3 := Lib.hid h3
  have H4 := Lib.hid h4
  have H5 := Lib.hid h5
  have H6 := Lib.hid h6
  have H7 := Lib.hid h7
  have H8 := Lib.hid h8
  have H9 := Lib.hid h9
  have H10 := Lib.hid h10
  have H11 := Lib.hid h11
  have H15 := Lib.hid h15
  clear h1 h2 h3 h4 h5 h6 h7 h8 h9 h10 h11 h15 hS hL hq hk hm hp hc hpae hpb hcb hlb hd hz hu hg hw1 hw2 hw4 hw5 hz0 hp0
  by_cases h100 : 100 < lc (⟨(d0 :: ds).toArray⟩ ++ z) 0
  · have hRe : RR = ⟨r, (a : Int), l, (a : Int), 3⟩ := by rw [← hRR]; exact if_pos h100
    subst hRe
    have h16 := fun W => rsize_any (⟨(d0 :: ds).toArray⟩ ++ z) W hXs
    obtain ⟨n, hn⟩ : ∃ n, lc (⟨(d0 :: ds).toArray⟩ ++ z) 0 = n := ⟨_, rfl⟩
    rw [hn] at h16 h100
    have h100b : decide ((n : Int) > 100) = true := decide_eq_true (by omega)
    have H16 := Lib.hid h16
    have HFA := Lib.hid (fail_new S t (a : Int) r v b 3 (a : Int) w HSR.out)
    clear h16 hn hRR
    skip
    go_enter Tryz.func61, Tryz.ntmps61
    go_wp2_with (first | (go_at_call 97; (with_reducible refine (H1.out).mono ?_); rintro e w' ⟨rfl, rfl⟩) | (go_at_call 98; (with_reducible refine (H2.out).mono ?_); rintro e w' ⟨rfl, rfl⟩) | (go_at_call 98; (with_reducible refine (H3.out).mono ?_); rintro e w' ⟨rfl, rfl⟩) | (go_at_call 60; (with_reducible refine (H4.out).mono ?_); rintro e w' ⟨rfl, rfl⟩) | (go_at_call 60; (with_reducible refine (H5.out).mono ?_); rintro e w' ⟨rfl, rfl⟩) | (go_at_call 69; (with_reducible refine (H6.out _).mono ?_); rintro e w' ⟨rfl, rfl⟩) | (go_at_call 62; (with_reducible refine (H7.out).mono ?_); rintro e w' ⟨rfl, rfl⟩) | (go_at_call 69; (with_reducible refine (H8.out _).mono ?_); rintro e w' ⟨rfl, rfl⟩) | (go_at_call 99; (with_reducible refine (H9.out _).mono ?_); rintro e w' ⟨rfl, rfl⟩) | (go_at_call 59; (with_reducible refine (H10.out _).mono ?_); rintro e w' ⟨rfl, rfl⟩) | (go_at_call 62; (with_reducible refine (H11.out).mono ?_); rintro e w' ⟨rfl, rfl⟩) | (go_at_call 101; (with_reducible refine (H15.out).mono ?_); rintro e w' ⟨rfl, rfl⟩) | (go_at_call 102; (with_reducible refine (H16.out _).mono ?_); rintro e w' ⟨rfl, rfl⟩) | (go_at_call 54; (with_reducible refine HFA.out.mono ?_); (rintro e5 w5 ⟨rfl, hS5, hg5⟩); (have HADD := Lib.hid (radd_any B S t (a : Int) r v 3 (a : Int) 4 (a : Int) (Z : Int) (⟨(d0 :: ds).toArray⟩ ++ z) l w5 hS5 (HSR.out.slgb HLR.out hg5) hB hll))) | (go_at_call 58; (with_reducible refine HADD.out.mono ?_); (rintro e6 w6 ⟨rfl, ⟨v6, hS6, hL6⟩, hb6, _⟩)))
    go_returns
    exact ⟨rfl, ⟨_, _, _, _, v6, _, hS6, hL6, (fun h => absurd h (show ¬ ((3 : Int) = 0) by decide)), (fun _ => ⟨rfl, rfl⟩)⟩, (hg5.below hB (by omega)).trans hb6⟩
  · have hRe : RR = ⟨r, (Z : Int), l ++ [(4, (⟨(d0 :: ds).toArray⟩ ++ z), (a : Int))], 0, 0⟩ := by rw [← hRR]; exact if_neg h100
    subst hRe
    have h16 := fun W => rsize_any (⟨(d0 :: ds).toArray⟩ ++ z) W hXs
    obtain ⟨n, hn⟩ : ∃ n, lc (⟨(d0 :: ds).toArray⟩ ++ z) 0 = n := ⟨_, rfl⟩
    rw [hn] at h16 h100
    have h100b : decide ((n : Int) > 100) = false := decide_eq_false (by omega)
    have H16 := Lib.hid h16
    have HADD := Lib.hid (radd_any B S t (a : Int) r v 0 b 4 (a : Int) (Z : Int) (⟨(d0 :: ds).toArray⟩ ++ z) l w HSR.out HLR.out hB hll)
    clear h16 hn hRR
    skip
    go_enter Tryz.func61, Tryz.ntmps61
    go_wp2_with (first | (go_at_call 97; (with_reducible refine (H1.out).mono ?_); rintro e w' ⟨rfl, rfl⟩) | (go_at_call 98; (with_reducible refine (H2.out).mono ?_); rintro e w' ⟨rfl, rfl⟩) | (go_at_call 98; (with_reducible refine (H3.out).mono ?_); rintro e w' ⟨rfl, rfl⟩) | (go_at_call 60; (with_reducible refine (H4.out).mono ?_); rintro e w' ⟨rfl, rfl⟩) | (go_at_call 60; (with_reducible refine (H5.out).mono ?_); rintro e w' ⟨rfl, rfl⟩) | (go_at_call 69; (with_reducible refine (H6.out _).mono ?_); rintro e w' ⟨rfl, rfl⟩) | (go_at_call 62; (with_reducible refine (H7.out).mono ?_); rintro e w' ⟨rfl, rfl⟩) | (go_at_call 69; (with_reducible refine (H8.out _).mono ?_); rintro e w' ⟨rfl, rfl⟩) | (go_at_call 99; (with_reducible refine (H9.out _).mono ?_); rintro e w' ⟨rfl, rfl⟩) | (go_at_call 59; (with_reducible refine (H10.out _).mono ?_); rintro e w' ⟨rfl, rfl⟩) | (go_at_call 62; (with_reducible refine (H11.out).mono ?_); rintro e w' ⟨rfl, rfl⟩) | (go_at_call 101; (with_reducible refine (H15.out).mono ?_); rintro e w' ⟨rfl, rfl⟩) | (go_at_call 102; (with_reducible refine (H16.out _).mono ?_); rintro e w' ⟨rfl, rfl⟩) | (go_at_call 58; (with_reducible refine HADD.out.mono ?_); (rintro e6 w6 ⟨rfl, ⟨v6, hS6, hL6⟩, hb6, _⟩)))
    go_returns
    exact ⟨rfl, ⟨_, _, _, _, v6, _, hS6, hL6, (fun _ => ⟨rfl, rfl, rfl, rfl⟩), (fun h => absurd rfl h)⟩, hb6⟩
set_option maxRecDepth 100000 in
set_option maxHeartbeats 8000000 in
theorem rnum_dotp2e0 (B S a : Nat) (t : ByteArray) (r b : Int) (v : Value) (l : List Sy) (w : World) (hS : Rc w S t (a : Int) r v 0 b) (hL : Sl w B v l) (hB : B ≤ S) (hl : t.size ≤ 100000) (hll : l.length ≤ 1000000) (ha : a < t.size) (hd : pk t a = 46) (hp1 : bDi (pk t (a + 1)) = true) (yl : List UInt8) (ye : Nat) (hy : rnF bDi bDi0 r t (a + 1) = (yl, ye)) (z : ByteArray) (Z : Nat) (hz : exF r t ye = (z, Z)) (hz0 : z = ⟨#[]⟩) :
    Calls Tryz.prog 61 #[.pointer (some ⟨S, 0, none⟩)] w (RPo B S t w (nuS r a l 4 (⟨#[]⟩ ++ ⟨#[46]⟩ ++ ⟨yl.toArray⟩) ye)) := by
  have hlt := hS.lt
  have c0 := hS.c0
  have c1 := hS.c1
  have c2 := hS.c2
  have HSR := Lib.hid hS
  have HLR := Lib.hid hL
  have hpa := (pk_in ha).symm
  have hsk : sk t a = a := ru_no (by rw [hd]; rfl)
  rw [hd] at hpa
  have h2 := behind_any t S a w c0 hl (by omega)
  rw [hsk] at h2
  have h5 := at_any t S a w c0 hl (by omega)
  rw [hd] at h5
  have h12 := at_any t S (a + 1) w c0 hl (by omega)
  rw [show ((a + 1 : Nat) : Int) = (a : Int) + 1 by omega] at h12
  have hsb := pk_bd t (a + 1)
  obtain ⟨sb, hsbe⟩ : ∃ s, pk t (a + 1) = s := ⟨_, rfl⟩
  have hkl : a + 1 < t.size := pk_lt rfl (fun h => by rw [h] at hp1; cases hp1)
  have hyl : yl.length ≤ 100000 := by have := rnF_len bDi bDi0 r t (a + 1); rw [hy] at this; simp only at this; omega
  have hye : ye ≤ t.size := by have := rnF_end bDi bDi0 r t (a + 1) (by omega); rw [hy] at this; exact this
  have h14 := rdig_any t S (a + 1) r w c0 hl (by omega) (ru_no (di_ch (r := r) hp1).2)
  rw [hy, show ((a + 1 : Nat) : Int) = (a : Int) + 1 by omega] at h14
  rw [hsbe] at h12 hsb hp1
  have h13 := fun w => rb_di sb w hsb.1 hsb.2
  rw [hp1] at h13
  have hel : ye ≤ t.size := by omega
  have h15 := rexp_any t S ye r w c0 c2 hl hel
  rw [hz] at h15
  have hzs : z.size ≤ 100002 := by have := exF_len r t ye; rw [hz] at this; simp only at this; omega
  subst hz0
  obtain ⟨RR, hRR⟩ : ∃ R, nuS r a l 4 (⟨#[]⟩ ++ ⟨#[46]⟩ ++ ⟨yl.toArray⟩) ye = R := ⟨_, rfl⟩
  rw [hRR]
  unfold nuS at hRR
  have hsz : ∀ q : List UInt8, (ByteArray.mk q.toArray).size = q.length := fun q => by simp [ByteArray.size]
  have hXs : ((⟨#[]⟩ ++ ⟨#[46]⟩ ++ ⟨yl.toArray⟩) : ByteArray).size ≤ 1000000 := by
    have e3 : (⟨#[46]⟩ : ByteArray).size = 1 := rfl
    have e4 : (⟨#[]⟩ : ByteArray).size = 0 := rfl
    have e2 := hsz yl
    (try simp only [ByteArray.size_append])
    omega
  clear hsz
  have H2 := Lib.hid h2
  have H5 := Lib.hid h5
  have H12 := Lib.hid h12
  have H13 := Lib.hid h13
  have H14 := Lib.hid h14
  have H15 := Lib.hid h15
  clear h2 h5 h12 h13 h14 h15 hS hL hd hsk hsb hsbe hp1 hy hz
  by_cases h100 : 100 < lc (⟨#[]⟩ ++ ⟨#[46]⟩ ++ ⟨yl.toArray⟩) 0
  · have hRe : RR = ⟨r, (a : Int), l, (a : Int), 3⟩ := by rw [← hRR]; exact if_pos h100
    subst hRe
    have h16 := fun W => rsize_any (⟨#[]⟩ ++ ⟨#[46]⟩ ++ ⟨yl.toArray⟩) W hXs
    obtain ⟨n, hn⟩ : ∃ n, lc (⟨#[]⟩ ++ ⟨#[46]⟩ ++ ⟨yl.toArray⟩) 0 = n := ⟨_, rfl⟩
    rw [hn] at h16 h100
    have h100b : decide ((n : Int) > 100) = true := decide_eq_true (by omega)
    have H16 := Lib.hid h16
    have HFA := Lib.hid (fail_new S t (a : Int) r v b 3 (a : Int) w HSR.out)
    clear h16 hn hRR
    skip
    go_enter Tryz.func61, Tryz.ntmps61
    go_wp2_with (first | (go_at_call 98; (with_reducible refine (H2.out).mono ?_); rintro e w' ⟨rfl, rfl⟩) | (go_at_call 60; (with_reducible refine (H5.out).mono ?_); rintro e w' ⟨rfl, rfl⟩) | (go_at_call 60; (with_reducible refine (H12.out).mono ?_); rintro e w' ⟨rfl, rfl⟩) | (go_at_call 59; (with_reducible refine (H13.out _).mono ?_); rintro e w' ⟨rfl, rfl⟩) | (go_at_call 97; (with_reducible refine (H14.out).mono ?_); rintro e w' ⟨rfl, rfl⟩) | (go_at_call 101; (with_reducible refine (H15.out).mono ?_); rintro e w' ⟨rfl, rfl⟩) | (go_at_call 102; (with_reducible refine (H16.out _).mono ?_); rintro e w' ⟨rfl, rfl⟩) | (go_at_call 54; (with_reducible refine HFA.out.mono ?_); (rintro e5 w5 ⟨rfl, hS5, hg5⟩); (have HADD := Lib.hid (radd_any B S t (a : Int) r v 3 (a : Int) 4 (a : Int) (ye : Int) (⟨#[]⟩ ++ ⟨#[46]⟩ ++ ⟨yl.toArray⟩) l w5 hS5 (HSR.out.slgb HLR.out hg5) hB hll))) | (go_at_call 58; (with_reducible refine HADD.out.mono ?_); (rintro e6 w6 ⟨rfl, ⟨v6, hS6, hL6⟩, hb6, _⟩)))
    go_returns
    exact ⟨rfl, ⟨_, _, _, _, v6, _, hS6, hL6, (fun h => absurd h (show ¬ ((3 : Int) = 0) by decide)), (fun _ => ⟨rfl, rfl⟩)⟩, (hg5.below hB (by omega)).trans hb6⟩
  · have hRe : RR = ⟨r, (ye : Int), l ++ [(4, (⟨#[]⟩ ++ ⟨#[46]⟩ ++ ⟨yl.toArray⟩), (a : Int))], 0, 0⟩ := by rw [← hRR]; exact if_neg h100
    subst hRe
    have h16 := fun W => rsize_any (⟨#[]⟩ ++ ⟨#[46]⟩ ++ ⟨yl.toArray⟩) W hXs
    obtain ⟨n, hn⟩ : ∃ n, lc (⟨#[]⟩ ++ ⟨#[46]⟩ ++ ⟨yl.toArray⟩) 0 = n := ⟨_, rfl⟩
    rw [hn] at h16 h100
    have h100b : decide ((n : Int) > 100) = false := decide_eq_false (by omega)
    have H16 := Lib.hid h16
    have HADD := Lib.hid (radd_any B S t (a : Int) r v 0 b 4 (a : Int) (ye : Int) (⟨#[]⟩ ++ ⟨#[46]⟩ ++ ⟨yl.toArray⟩) l w HSR.out HLR.out hB hll)
    clear h16 hn hRR
    skip
    go_enter Tryz.func61, Tryz.ntmps61
    go_wp2_with (first | (go_at_call 98; (with_reducible refine (H2.out).mono ?_); rintro e w' ⟨rfl, rfl⟩) | (go_at_call 60; (with_reducible refine (H5.out).mono ?_); rintro e w' ⟨rfl, rfl⟩) | (go_at_call 60; (with_reducible refine (H12.out).mono ?_); rintro e w' ⟨rfl, rfl⟩) | (go_at_call 59; (with_reducible refine (H13.out _).mono ?_); rintro e w' ⟨rfl, rfl⟩) | (go_at_call 97; (with_reducible refine (H14.out).mono ?_); rintro e w' ⟨rfl, rfl⟩) | (go_at_call 101; (with_reducible refine (H15.out).mono ?_); rintro e w' ⟨rfl, rfl⟩) | (go_at_call 102; (with_reducible refine (H16.out _).mono ?_); rintro e w' ⟨rfl, rfl⟩) | (go_at_call 58; (with_reducible refine HADD.out.mono ?_); (rintro e6 w6 ⟨rfl, ⟨v6, hS6, hL6⟩, hb6, _⟩)))
    go_returns
    exact ⟨rfl, ⟨_, _, _, _, v6, _, hS6, hL6, (fun _ => ⟨rfl, rfl, rfl, rfl⟩), (fun h => absurd rfl h)⟩, hb6⟩
set_option maxRecDepth 100000 in
set_option maxHeartbeats 8000000 in
theorem rnum_dotp2e1 (B S a : Nat) (t : ByteArray) (r b : Int) (v : Value) (l : List Sy) (w : World) (hS : Rc w S t (a : Int) r v 0 b) (hL : Sl w B v l) (hB : B ≤ S) (hl : t.size ≤ 100000) (hll : l.length ≤ 1000000) (ha : a < t.size) (hd : pk t a = 46) (hp1 : bDi (pk t (a + 1)) = true) (yl : List UInt8) (ye : Nat) (hy : rnF bDi bDi0 r t (a + 1) = (yl, ye)) (z : ByteArray) (Z : Nat) (hz : exF r t ye = (z, Z)) (hz0 : z ≠ ⟨#[]⟩) :
    Calls Tryz.prog 61 #[.pointer (some ⟨S, 0, none⟩)] w (RPo B S t w (nuS r a l 4 ((⟨#[]⟩ ++ ⟨#[46]⟩ ++ ⟨yl.toArray⟩) ++ z) Z)) := by
  have hlt := hS.lt
  have c0 := hS.c0
  have c1 := hS.c1
  have c2 := hS.c2
  have HSR := Lib.hid hS
  have HLR := Lib.hid hL
  have hpa := (pk_in ha).symm
  have hsk : sk t a = a := ru_no (by rw [hd]; rfl)
  rw [hd] at hpa
  have h2 := behind_any t S a w c0 hl (by omega)
  rw [hsk] at h2
  have h5 := at_any t S a w c0 hl (by omega)
  rw [hd] at h5
  have h12 := at_any t S (a + 1) w c0 hl (by omega)
  rw [show ((a + 1 : Nat) : Int) = (a : Int) + 1 by omega] at h12
  have hsb := pk_bd t (a + 1)
  obtain ⟨sb, hsbe⟩ : ∃ s, pk t (a + 1) = s := ⟨_, rfl⟩
  have hkl : a + 1 < t.size := pk_lt rfl (fun h => by rw [h] at hp1; cases hp1)
  have hyl : yl.length ≤ 100000 := by have := rnF_len bDi bDi0 r t (a + 1); rw [hy] at this; simp only at this; omega
  have hye : ye ≤ t.size := by have := rnF_end bDi bDi0 r t (a + 1) (by omega); rw [hy] at this; exact this
  have h14 := rdig_any t S (a + 1) r w c0 hl (by omega) (ru_no (di_ch (r := r) hp1).2)
  rw [hy, show ((a + 1 : Nat) : Int) = (a : Int) + 1 by omega] at h14
  rw [hsbe] at h12 hsb hp1
  have h13 := fun w => rb_di sb w hsb.1 hsb.2
  rw [hp1] at h13
  have hel : ye ≤ t.size := by omega
  have h15 := rexp_any t S ye r w c0 c2 hl hel
  rw [hz] at h15
  have hzs : z.size ≤ 100002 := by have := exF_len r t ye; rw [hz] at this; simp only at this; omega
  have hzf : z.toList.isEmpty = false := full_bytes hz0
  obtain ⟨RR, hRR⟩ : ∃ R, nuS r a l 4 ((⟨#[]⟩ ++ ⟨#[46]⟩ ++ ⟨yl.toArray⟩) ++ z) Z = R := ⟨_, rfl⟩
  rw [hRR]
  unfold nuS at hRR
  have hsz : ∀ q : List UInt8, (ByteArray.mk q.toArray).size = q.length := fun q => by simp [ByteArray.size]
  have hXs : (((⟨#[]⟩ ++ ⟨#[46]⟩ ++ ⟨yl.toArray⟩) ++ z) : ByteArray).size ≤ 1000000 := by
    have e3 : (⟨#[46]⟩ : ByteArray).size = 1 := rfl
    have e4 : (⟨#[]⟩ : ByteArray).size = 0 := rfl
    have e2 := hsz yl
    (try simp only [ByteArray.size_append])
    omega
  clear hsz
  have H2 := Lib.hid h2
  have H5 := Lib.hid h5
  have H12 := Lib.hid h12
  have H13 := Lib.hid h13
  have H14 := Lib.hid h14
  have H15 := Lib.hid h15
  clear h2 h5 h12 h13 h14 h15 hS hL hd hsk hsb hsbe hp1 hy hz hz0
  by_cases h100 : 100 < lc ((⟨#[]⟩ ++ ⟨#[46]⟩ ++ ⟨yl.toArray⟩) ++ z) 0
  · have hRe : RR = ⟨r, (a : Int), l, (a : Int), 3⟩ := by rw [← hRR]; exact if_pos h100
    subst hRe
    have h16 := fun W => rsize_any ((⟨#[]⟩ ++ ⟨#[46]⟩ ++ ⟨yl.toArray⟩) ++ z) W hXs
    obtain ⟨n, hn⟩ : ∃ n, lc ((⟨#[]⟩ ++ ⟨#[46]⟩ ++ ⟨yl.toArray⟩) ++ z) 0 = n := ⟨_, rfl⟩
    rw [hn] at h16 h100
    have h100b : decide ((n : Int) > 100) = true := decide_eq_true (by omega)
    have H16 := Lib.hid h16
    have HFA := Lib.hid (fail_new S t (a : Int) r v b 3 (a : Int) w HSR.out)
    clear h16 hn hRR
    skip
    go_enter Tryz.func61, Tryz.ntmps61
    go_wp2_with (first | (go_at_call 98; (with_reducible refine (H2.out).mono ?_); rintro e w' ⟨rfl, rfl⟩) | (go_at_call 60; (with_reducible refine (H5.out).mono ?_); rintro e w' ⟨rfl, rfl⟩) | (go_at_call 60; (with_reducible refine (H12.out).mono ?_); rintro e w' ⟨rfl, rfl⟩) | (go_at_call 59; (with_reducible refine (H13.out _).mono ?_); rintro e w' ⟨rfl, rfl⟩) | (go_at_call 97; (with_reducible refine (H14.out).mono ?_); rintro e w' ⟨rfl, rfl⟩) | (go_at_call 101; (with_reducible refine (H15.out).mono ?_); rintro e w' ⟨rfl, rfl⟩) | (go_at_call 102; (with_reducible refine (H16.out _).mono ?_); rintro e w' ⟨rfl, rfl⟩) | (go_at_call 54; (with_reducible refine HFA.out.mono ?_); (rintro e5 w5 ⟨rfl, hS5, hg5⟩); (have HADD := Lib.hid (radd_any B S t (a : Int) r v 3 (a : Int) 4 (a : Int) (Z : Int) ((⟨#[]⟩ ++ ⟨#[46]⟩ ++ ⟨yl.toArray⟩) ++ z) l w5 hS5 (HSR.out.slgb HLR.out hg5) hB hll))) | (go_at_call 58; (with_reducible refine HADD.out.mono ?_); (rintro e6 w6 ⟨rfl, ⟨v6, hS6, hL6⟩, hb6, _⟩)))
    go_returns
    exact ⟨rfl, ⟨_, _, _, _, v6, _, hS6, hL6, (fun h => absurd h (show ¬ ((3 : Int) = 0) by decide)), (fun _ => ⟨rfl, rfl⟩)⟩, (hg5.below hB (by omega)).trans hb6⟩
  · have hRe : RR = ⟨r, (Z : Int), l ++ [(4, ((⟨#[]⟩ ++ ⟨#[46]⟩ ++ ⟨yl.toArray⟩) ++ z), (a : Int))], 0, 0⟩ := by rw [← hRR]; exact if_neg h100
    subst hRe
    have h16 := fun W => rsize_any ((⟨#[]⟩ ++ ⟨#[46]⟩ ++ ⟨yl.toArray⟩) ++ z) W hXs
    obtain ⟨n, hn⟩ : ∃ n, lc ((⟨#[]⟩ ++ ⟨#[46]⟩ ++ ⟨yl.toArray⟩) ++ z) 0 = n := ⟨_, rfl⟩
    rw [hn] at h16 h100
    have h100b : decide ((n : Int) > 100) = false := decide_eq_false (by omega)
    have H16 := Lib.hid h16
    have HADD := Lib.hid (radd_any B S t (a : Int) r v 0 b 4 (a : Int) (Z : Int) ((⟨#[]⟩ ++ ⟨#[46]⟩ ++ ⟨yl.toArray⟩) ++ z) l w HSR.out HLR.out hB hll)
    clear h16 hn hRR
    skip
    go_enter Tryz.func61, Tryz.ntmps61
    go_wp2_with (first | (go_at_call 98; (with_reducible refine (H2.out).mono ?_); rintro e w' ⟨rfl, rfl⟩) | (go_at_call 60; (with_reducible refine (H5.out).mono ?_); rintro e w' ⟨rfl, rfl⟩) | (go_at_call 60; (with_reducible refine (H12.out).mono ?_); rintro e w' ⟨rfl, rfl⟩) | (go_at_call 59; (with_reducible refine (H13.out _).mono ?_); rintro e w' ⟨rfl, rfl⟩) | (go_at_call 97; (with_reducible refine (H14.out).mono ?_); rintro e w' ⟨rfl, rfl⟩) | (go_at_call 101; (with_reducible refine (H15.out).mono ?_); rintro e w' ⟨rfl, rfl⟩) | (go_at_call 102; (with_reducible refine (H16.out _).mono ?_); rintro e w' ⟨rfl, rfl⟩) | (go_at_call 58; (with_reducible refine HADD.out.mono ?_); (rintro e6 w6 ⟨rfl, ⟨v6, hS6, hL6⟩, hb6, _⟩)))
    go_returns
    exact ⟨rfl, ⟨_, _, _, _, v6, _, hS6, hL6, (fun _ => ⟨rfl, rfl, rfl, rfl⟩), (fun h => absurd rfl h)⟩, hb6⟩
theorem xn_e0 {r : Int} {t : ByteArray} {m : Int × ByteArray × Nat} {K : Int} {x : ByteArray} {e : Nat} (hm : m = (K, x, e)) (h : (exF r t e).1 = ⟨#[]⟩) : xnF r t m = (K, x, e) := by
  subst hm
  unfold xnF
  exact if_pos h
theorem xn_e1 {r : Int} {t : ByteArray} {m : Int × ByteArray × Nat} {K : Int} {x : ByteArray} {e : Nat} (hm : m = (K, x, e)) (h : (exF r t e).1 ≠ ⟨#[]⟩) : xnF r t m = (4, x ++ (exF r t e).1, (exF r t e).2) := by
  subst hm
  unfold xnF
  exact if_neg h
theorem rnum_any (B S a : Nat) (t : ByteArray) (r b : Int) (v : Value) (l : List Sy) (w : World) (hS : Rc w S t (a : Int) r v 0 b) (hL : Sl w B v l) (hB : B ≤ S) (hl : t.size ≤ 100000) (hll : l.length ≤ 1000000) (ha : a < t.size) (hd0 : bDi (pk t a) = true ∨ pk t a = 46 ∧ bDi (pk t (a + 1)) = true) :
    Calls Tryz.prog 61 #[.pointer (some ⟨S, 0, none⟩)] w (RPo B S t w (nuR r t a l)) := by
  rcases hd0 with hd | ⟨hd, hp1⟩
  · obtain ⟨⟨ql, qe⟩, hq⟩ : ∃ q, rnF bDi bDi0 r t a = q := ⟨_, rfl⟩
    have hno : (rdF r t qe).1 = [] → nbF r t a = xnF r t (mnF r t (ql, qe)) := by
      intro h
      unfold nbF
      rw [hq]
      exact if_pos h
    by_cases hw1 : loA (pk t (sk t qe)) = 114
    · have hp0 : pk t (sk t qe) ≠ 46 := fun h => by rw [h] at hw1; exact absurd hw1 (by decide)
      have hm0 : mnF r t (ql, qe) = (3, ⟨ql.toArray⟩, qe) := if_neg (fun h => hp0 h.1)
      cases hw2 : ltB r (pk t (sk t qe))
      · have hrd := hno (rd_no1 (r_ch (fun h => by rw [hw2] at h; cases h.2)))
        by_cases hz0 : (exF r t qe).1 = ⟨#[]⟩
        · rw [nu_s (hrd.trans (xn_e0 hm0 hz0)) (by decide)]
          exact rnum_n2p0e0 B S a t r b v l w hS hL hB hl hll ha hd ql qe hq hw1 hw2 hp0 _ _ rfl hz0
        · rw [nu_s (hrd.trans (xn_e1 hm0 hz0)) (by decide)]
          exact rnum_n2p0e1 B S a t r b v l w hS hL hB hl hll ha hd ql qe hq hw1 hw2 hp0 _ _ rfl hz0
      · have hx := hx_ch r (pk t (sk t (sk t qe + 1)))
        by_cases hw3 : 0 ≤ hxA (loA (pk t (sk t (sk t qe + 1))))
        · rw [decide_eq_true hw3, Bool.true_and] at hx
          cases hw4 : (bDi (pk t (sk t (sk t qe + 1))) || ltB r (pk t (sk t (sk t qe + 1))))
          · rw [hw4] at hx
            have hrd := hno (rd_no2 hx.symm)
            rw [Bool.or_eq_false_iff] at hw4
            by_cases hz0 : (exF r t qe).1 = ⟨#[]⟩
            · rw [nu_s (hrd.trans (xn_e0 hm0 hz0)) (by decide)]
              exact rnum_n4p0e0 B S a t r b v l w hS hL hB hl hll ha hd ql qe hq hw1 hw2 hw3 hw4.1 hw4.2 hp0 _ _ rfl hz0
            · rw [nu_s (hrd.trans (xn_e1 hm0 hz0)) (by decide)]
              exact rnum_n4p0e1 B S a t r b v l w hS hL hB hl hll ha hd ql qe hq hw1 hw2 hw3 hw4.1 hw4.2 hp0 _ _ rfl hz0
          · rw [hw4] at hx
            rw [nu_bits hq (by show chB r (pk t (sk t qe)) = 114; rw [lo_ch hw2]; exact hw1) hx.symm]
            exact rnum_bits B S a t r b v l w hS hL hB hl hll ha hd ql qe hq hw1 hw2 hw3 hw4
        · rw [decide_eq_false hw3, Bool.false_and] at hx
          have hrd := hno (rd_no2 hx.symm)
          have hw3b : hxA (loA (pk t (sk t (sk t qe + 1)))) < 0 := by omega
          by_cases hz0 : (exF r t qe).1 = ⟨#[]⟩
          · rw [nu_s (hrd.trans (xn_e0 hm0 hz0)) (by decide)]
            exact rnum_n3p0e0 B S a t r b v l w hS hL hB hl hll ha hd ql qe hq hw1 hw2 hw3b hp0 _ _ rfl hz0
          · rw [nu_s (hrd.trans (xn_e1 hm0 hz0)) (by decide)]
            exact rnum_n3p0e1 B S a t r b v l w hS hL hB hl hll ha hd ql qe hq hw1 hw2 hw3b hp0 _ _ rfl hz0
    · have hrd := hno (rd_no1 (r_ch (fun h => hw1 h.1)))
      by_cases hp0 : pk t (sk t qe) = 46
      · cases hp1 : bDi (pk t (sk t qe + 1))
        · have hm0 : mnF r t (ql, qe) = (3, ⟨ql.toArray⟩, qe) := if_neg (fun h => by rw [hp1] at h; cases h.2)
          by_cases hz0 : (exF r t qe).1 = ⟨#[]⟩
          · rw [nu_s (hrd.trans (xn_e0 hm0 hz0)) (by decide)]
            exact rnum_n1p1e0 B S a t r b v l w hS hL hB hl hll ha hd ql qe hq hw1 hp0 hp1 _ _ rfl hz0
          · rw [nu_s (hrd.trans (xn_e1 hm0 hz0)) (by decide)]
            exact rnum_n1p1e1 B S a t r b v l w hS hL hB hl hll ha hd ql qe hq hw1 hp0 hp1 _ _ rfl hz0
        · have hm2 : mnF r t (ql, qe) = (4, ⟨ql.toArray⟩ ++ ⟨#[46]⟩ ++ ⟨(rnF bDi bDi0 r t (sk t qe + 1)).1.toArray⟩, (rnF bDi bDi0 r t (sk t qe + 1)).2) := if_pos ⟨hp0, hp1⟩
          by_cases hz0 : (exF r t (rnF bDi bDi0 r t (sk t qe + 1)).2).1 = ⟨#[]⟩
          · rw [nu_s (hrd.trans (xn_e0 hm2 hz0)) (by decide)]
            exact rnum_n1p2e0 B S a t r b v l w hS hL hB hl hll ha hd ql qe hq hw1 hp0 hp1 _ _ rfl _ _ rfl hz0
          · rw [nu_s (hrd.trans (xn_e1 hm2 hz0)) (by decide)]
            exact rnum_n1p2e1 B S a t r b v l w hS hL hB hl hll ha hd ql qe hq hw1 hp0 hp1 _ _ rfl _ _ rfl hz0
      · have hm0 : mnF r t (ql, qe) = (3, ⟨ql.toArray⟩, qe) := if_neg (fun h => hp0 h.1)
        by_cases hz0 : (exF r t qe).1 = ⟨#[]⟩
        · rw [nu_s (hrd.trans (xn_e0 hm0 hz0)) (by decide)]
          exact rnum_n1p0e0 B S a t r b v l w hS hL hB hl hll ha hd ql qe hq hw1 hp0 _ _ rfl hz0
        · rw [nu_s (hrd.trans (xn_e1 hm0 hz0)) (by decide)]
          exact rnum_n1p0e1 B S a t r b v l w hS hL hB hl hll ha hd ql qe hq hw1 hp0 _ _ rfl hz0
  · obtain ⟨p1, p2⟩ := pt_ch (r := r) hd
    have hq : rnF bDi bDi0 r t a = ([], a) := by
      unfold rnF
      rw [p2, rn_no (by rw [p1]; rfl)]
    have hr : (rdF r t a).1 = [] := rd_no1 (by rw [p2, p1]; decide)
    have hrd : nbF r t a = xnF r t (mnF r t ([], a)) := by
      unfold nbF
      rw [hq]
      exact if_pos hr
    have hm2 : mnF r t ([], a) = (4, ⟨#[]⟩ ++ ⟨#[46]⟩ ++ ⟨(rnF bDi bDi0 r t (a + 1)).1.toArray⟩, (rnF bDi bDi0 r t (a + 1)).2) := by
      unfold mnF
      simp only
      rw [p2, if_pos ⟨hd, hp1⟩]
    by_cases hz0 : (exF r t (rnF bDi bDi0 r t (a + 1)).2).1 = ⟨#[]⟩
    · rw [nu_s (hrd.trans (xn_e0 hm2 hz0)) (by decide)]
      exact rnum_dotp2e0 B S a t r b v l w hS hL hB hl hll ha hd hp1 _ _ rfl _ _ rfl hz0
    · rw [nu_s (hrd.trans (xn_e1 hm2 hz0)) (by decide)]
      exact rnum_dotp2e1 B S a t r b v l w hS hL hB hl hll ha hd hp1 _ _ rfl _ _ rfl hz0
end Go.Proofs.YtbnldpcbdeeflaaGreatDoor
