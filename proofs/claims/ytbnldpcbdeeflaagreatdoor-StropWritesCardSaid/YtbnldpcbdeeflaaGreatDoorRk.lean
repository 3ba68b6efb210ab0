/- The reference's bits. Condition: its block and its list lie in blocks of the call's own. -/
import Derived.Test.YtbnldpcbdeeflaaGreatDoorRt
import Derived.Test.YtbnldpcbdeeflaaGreatDoorRe
namespace Go.Proofs.YtbnldpcbdeeflaaGreatDoor
open Go.ChangeShapes Go.WideShapes Go.ChangeAt Go.RowKit

theorem ca_cons (b : UInt8) (l o : List UInt8) : Lib.containsAny (b :: l) o = (o.contains b || Lib.containsAny l o) := by
  unfold Lib.containsAny
  rw [Lib.indexAny]
  have := Lib.indexAny_ge o l
  cases h : o.contains b
  · rw [Bool.false_or, if_neg (by decide)]
    by_cases h1 : Lib.indexAny l o = -1
    · rw [h1]; rfl
    · rw [if_neg (by rw [beq_iff_eq]; exact h1)]
      rw [decide_eq_true (by omega), decide_eq_true (by omega)]
  · rw [Bool.true_or, if_pos rfl]; rfl
theorem ca_nil (o : List UInt8) : Lib.containsAny [] o = false := rfl
/-- A digit that a radix has not. -/
def ovD (v : Int) (c : UInt8) : Bool := decide (v ≤ hxA (c.toNat : Int))
theorem ov_16 : ∀ n : Fin 256, bHx (n.val : Int) = true → ovD 16 (UInt8.ofNat n.val) = false := by decide +kernel
theorem ov_8 : ∀ n : Fin 256, bHx (n.val : Int) = true → ([56, 57, 97, 98, 99, 100, 101, 102] : List UInt8).contains (UInt8.ofNat n.val) = ovD 8 (UInt8.ofNat n.val) := by decide +kernel
theorem ov_4 : ∀ n : Fin 256, bHx (n.val : Int) = true → ([52, 53, 54, 55, 56, 57, 97, 98, 99, 100, 101, 102] : List UInt8).contains (UInt8.ofNat n.val) = ovD 4 (UInt8.ofNat n.val) := by decide +kernel
theorem ov_2 : ∀ n : Fin 256, bHx (n.val : Int) = true → ([50, 51, 52, 53, 54, 55, 56, 57, 97, 98, 99, 100, 101, 102] : List UInt8).contains (UInt8.ofNat n.val) = ovD 2 (UInt8.ofNat n.val) := by decide +kernel
theorem ov_any {o : List UInt8} {v : Int} (h : ∀ n : Fin 256, bHx (n.val : Int) = true → o.contains (UInt8.ofNat n.val) = ovD v (UInt8.ofNat n.val)) : ∀ dl : List UInt8, (∀ c ∈ dl, bHx (c.toNat : Int) = true) → Lib.containsAny dl o = dl.any (ovD v)
  | [], _ => rfl
  | c :: l, hc => by
    rw [ca_cons, List.any_cons, ov_any h l (fun x hx => hc x (List.mem_cons_of_mem _ hx))]
    have := h ⟨c.toNat, c.toNat_lt⟩ (hc c (List.mem_cons_self ..))
    simp only [UInt8.ofNat_toNat] at this
    rw [this]
/-- The value of a radix; 0 for what is none. -/
def rdV (ql : List UInt8) : Int := if ql = [50] then 2 else if ql = [52] then 4 else if ql = [56] then 8 else if ql = [49, 54] then 16 else 0
theorem ab_ov (ql dl : List UInt8) (hc : ∀ c ∈ dl, bHx (c.toNat : Int) = true) : abF ql dl = !(decide (rdV ql = 0) || dl.any (ovD (rdV ql))) := by
  unfold abF ovF rdV
  by_cases h2 : ql = [50]
  · rw [if_pos h2, if_pos h2]; simp only; rw [ov_any ov_2 dl hc]; rfl
  rw [if_neg h2, if_neg h2]
  by_cases h4 : ql = [52]
  · rw [if_pos h4, if_pos h4]; simp only; rw [ov_any ov_4 dl hc]; rfl
  rw [if_neg h4, if_neg h4]
  by_cases h8 : ql = [56]
  · rw [if_pos h8, if_pos h8]; simp only; rw [ov_any ov_8 dl hc]; rfl
  rw [if_neg h8, if_neg h8]
  by_cases h16 : ql = [49, 54]
  · rw [if_pos h16, if_pos h16]; simp only
    have hn : ∀ l : List UInt8, Lib.containsAny l [] = false := by
      intro l
      unfold Lib.containsAny
      rw [Lib.indexAny_nil]; rfl
    rw [hn]
    have : dl.any (ovD 16) = false := by
      rw [List.any_eq_false]
      intro c h
      have := ov_16 ⟨c.toNat, c.toNat_lt⟩ (hc c h)
      simp only [UInt8.ofNat_toNat] at this
      rw [this]; decide
    rw [this]; rfl
  · rw [if_neg h16, if_neg h16]; rfl
theorem hx_ch (r c : Int) : (decide (0 ≤ hxA (loA c)) && (bDi c || ltB r c)) = bHx (chB r c) := by
  cases hl : ltB r c
  · cases hd : bDi c
    · rw [Bool.or_false, Bool.and_false]
      have h1 := no_ch hl
      have h2 := di_chB r c
      rw [hd] at h2
      unfold bHx
      symm
      apply decide_eq_false
      intro h
      rcases h with h | h
      · rw [show bDi (chB r c) = true from decide_eq_true h] at h2; cases h2
      · rw [show bSm (chB r c) = true from decide_eq_true (by omega)] at h1; cases h1
    · rw [Bool.true_or, Bool.and_true, chB_di hd]
      have h1 : 48 ≤ c ∧ c ≤ 57 := of_decide_eq_true hd
      have h2 : loA c = c := by unfold loA; rw [show bCa c = false from decide_eq_false (by omega), if_neg (by decide)]
      rw [h2]
      unfold hxA bHx
      rw [if_pos hd, decide_eq_true (by omega), decide_eq_true (by omega)]
  · rw [Bool.or_true, Bool.and_true, lo_ch hl]
    have h : bSm (loA c) = true := by
      have := sd_ch r c
      rw [hl, Bool.true_or, lo_ch hl] at this
      unfold bSd at this
      cases hs : bSm (loA c)
      · rw [hs, Bool.false_or] at this
        exfalso
        have h1 : 48 ≤ loA c ∧ loA c ≤ 57 := of_decide_eq_true this
        unfold ltB at hl
        unfold loA at h1
        cases hc : bCa c
        · rw [hc, Bool.and_false, Bool.or_false] at hl
          have h2 : 97 ≤ c ∧ c ≤ 122 := of_decide_eq_true hl
          rw [hc, if_neg (by decide)] at h1
          omega
        · have h2 : 65 ≤ c ∧ c ≤ 90 := of_decide_eq_true hc
          rw [hc, if_pos rfl] at h1
          omega
      · rfl
    have h1 : 97 ≤ loA c ∧ loA c ≤ 122 := of_decide_eq_true h
    unfold hxA bHx
    rw [show bDi (loA c) = false from decide_eq_false (by omega), if_neg (by decide)]
    by_cases h2 : loA c ≤ 102
    · rw [if_pos (by omega), decide_eq_true (by omega), decide_eq_true (by omega)]
    · rw [if_neg (by omega), decide_eq_false (by omega), decide_eq_false (by omega)]
theorem hx_bd (c : Int) : -1 ≤ hxA c ∧ hxA c ≤ 15 := by
  unfold hxA
  split
  · rename_i h
    have h1 : 48 ≤ c ∧ c ≤ 57 := of_decide_eq_true h
    omega
  · split <;> omega
/-- The value of a text's first digits. -/
def dvx (x : ByteArray) : Nat → Int
  | 0 => 0
  | k + 1 => 10 * dvx x k + (pk x k - 48)
theorem dv_bd {x : ByteArray} (h : ∀ j, j < x.size → 48 ≤ pk x j ∧ pk x j ≤ 57) : ∀ k, k ≤ x.size → k ≤ 2 → 0 ≤ dvx x k ∧ dvx x k ≤ 99
  | 0, _, _ => by unfold dvx; omega
  | 1, h1, _ => by have := h 0 (by omega); unfold dvx dvx; omega
  | 2, h1, _ => by have := h 0 (by omega); have := h 1 (by omega); unfold dvx dvx dvx; omega
/-- What the reference's bits leave. -/
def bkR (r : Int) (t : ByteArray) (a i : Nat) (ql : List UInt8) (l : List Sy) : Rs :=
  if 100 < lc ⟨(ql ++ 114 :: (rn bHx bHx0 r t i i).1).toArray⟩ 0 then ⟨r, a, l, a, 3⟩
  else if (decide (rdV ql = 0) || (rn bHx bHx0 r t i i).1.any (ovD (rdV ql))) = true then ⟨r, a, l, a, 11⟩
  else ⟨r, (rn bHx bHx0 r t i i).2, l ++ [(5, ⟨(ql ++ 114 :: (rn bHx bHx0 r t i i).1).toArray⟩, (a : Int))], 0, 0⟩
set_option maxRecDepth 100000 in
set_option maxHeartbeats 8000000 in
theorem rbits_bad (B S a i : Nat) (t x : ByteArray) (ql : List UInt8) (hxq : x = ⟨ql.toArray⟩) (r b : Int) (v : Value) (l : List Sy) (w : World) (hS : Rc w S t (a : Int) r v 0 b) (hL : Sl w B v l) (hB : B ≤ S) (hl : t.size ≤ 100000) (hll : l.length ≤ 1000000) (hi : i ≤ t.size) (hsk : sk t i = i) (hql : ql.length ≤ 100000) (V : Int) (hV : rdV ql = V) (hn2 : ql ≠ [50]) (hn4 : ql ≠ [52]) (hn8 : ql ≠ [56]) (hn16 : ql ≠ [49, 54]) :
    Calls Tryz.prog 100 #[.pointer (some ⟨S, 0, none⟩), .string x, .int .i64 (a : Int), .int .i64 (i : Int)] w (RPo B S t w (bkR r t a i ql l)) := by
  have hlt := hS.lt
  have HC : Hid (∀ W, Below w.heap.size w W → Rc W S t (a : Int) r v 0 b ∧ Sl W B v l) := Lib.hid (fun W hb => ⟨hS.kept hb, hS.sl hL hb⟩)
  have HI := Lib.hid hi
  have HSK := Lib.hid hsk
  have HVV := Lib.hid hV
  have HXQ := Lib.hid hxq
  have hxs : x.size ≤ 100000 := by rw [hxq]; show ql.toArray.size ≤ _; rw [List.size_toArray]; exact hql
  have HAP : Hid (x ++ ⟨#[114]⟩ = ⟨(ql ++ [114]).toArray⟩) := Lib.hid (by rw [hxq]; exact app_one ql 114)
  obtain ⟨RR, hRR⟩ : ∃ R, bkR r t a i ql l = R := ⟨_, rfl⟩
  rw [hRR]
  have HRR := Lib.hid hRR
  have k2 : (x.toList == [50]) = false := by rw [hxq]; exact toL_ne (fun e => hn2 (by have := congrArg (fun z : ByteArray => z.data.toList) e; simpa using this))
  have k4 : (x.toList == [52]) = false := by rw [hxq]; exact toL_ne (fun e => hn4 (by have := congrArg (fun z : ByteArray => z.data.toList) e; simpa using this))
  have k8 : (x.toList == [56]) = false := by rw [hxq]; exact toL_ne (fun e => hn8 (by have := congrArg (fun z : ByteArray => z.data.toList) e; simpa using this))
  have k16 : (x.toList == [49, 54]) = false := by rw [hxq]; exact toL_ne (fun e => hn16 (by have := congrArg (fun z : ByteArray => z.data.toList) e; simpa using this))
  have hV0 : V = 0 := by rw [← hV]; unfold rdV; rw [if_neg hn2, if_neg hn4, if_neg hn8, if_neg hn16]
  have HV0 := Lib.hid hV0
  clear hn2 hn4 hn8 hn16 hV0
  clear hS hL hsk hi hRR hV hxq
  go_enter Tryz.func100, Tryz.ntmps100
  go_wp2
  go_loopw [8, 9, 10] (fun v8 v9 v10 wr => ∃ (acc : List UInt8) (e : Nat), i ≤ e ∧ acc.length ≤ e ∧ e ≤ t.size ∧ (acc ++ (rn bHx bHx0 r t (sk t e) e).1, (rn bHx bHx0 r t (sk t e) e).2) = rn bHx bHx0 r t i i ∧ v8 = .string ⟨(ql ++ 114 :: acc).toArray⟩ ∧ v9 = .int .i64 e ∧ v10 = .bool (decide (V = 0) || acc.any (ovD V)) ∧ Below w.heap.size w wr) (fun _ v9 _ _ => t.size - (intOf v9).toNat)
  case atStart => exact ⟨[], i, Nat.le_refl _, Nat.zero_le _, HI.out, by rw [HSK.out]; rfl, by rw [HAP.out], rfl, by rw [HV0.out]; rfl, Below.refl _ w⟩
  case round =>
    obtain ⟨acc, e, hie, hal, he, hrn, rfl, rfl, rfl, hb⟩ := hrel
    have hks := sk_ge t e
    have hkl := sk_le he
    have hRc := (HC.out wr hb).1
    have c0 := hRc.c0
    have H1 := Lib.hid (behind_any t S e wr c0 hl (by omega))
    have H2 := Lib.hid (at_any t S (sk t e) wr c0 hl (by omega))
    have HR := Lib.hid hrn
    obtain ⟨k, hk⟩ : ∃ k, sk t e = k := ⟨_, rfl⟩
    have HK := Lib.hid hk
    rw [hk] at H1 H2 hks hkl
    have hp := pk_bd t k
    obtain ⟨p, hpe⟩ : ∃ p, pk t k = p := ⟨_, rfl⟩
    have HP := Lib.hid hpe
    rw [hpe] at hp H2
    have hlo := lo_bd hp.1 hp.2
    have H3 := Lib.hid (fun w => rb_di p w hp.1 hp.2)
    have H4 := Lib.hid (letter_any S r p wr hRc.c2 hp.1 hp.2)
    have H5 := Lib.hid (fun w => rb_lo p w hp.1 hp.2)
    have H6 := Lib.hid (fun w => rb_hx (loA p) w hlo.1 hlo.2)
    have hhb := hx_bd (loA p)
    have HX := Lib.hid (hx_ch r p)
    have hal2 : acc.length ≤ 100000 := by omega
    have hwz := hb.size
    have HB := Lib.hid hb
    have HCV := fun W => conv_one (loA p) hlo.1 hlo.2 W
    obtain ⟨q, hq⟩ : ∃ q, loA p = q := ⟨_, rfl⟩
    have HQ := Lib.hid hq
    rw [hq] at H5 H6 hhb HX HCV hlo
    obtain ⟨g, hg⟩ : ∃ g, hxA q = g := ⟨_, rfl⟩
    have HG := Lib.hid hg
    rw [hg] at H6 hhb HX
    obtain ⟨y, hy⟩ : ∃ y, (⟨(ql ++ 114 :: acc).toArray⟩ : ByteArray) = y := ⟨_, rfl⟩
    have hys : y.size ≤ 300000 := by rw [← hy]; show (ql ++ 114 :: acc).toArray.size ≤ _; rw [List.size_toArray, List.length_append, List.length_cons]; omega
    have HY := Lib.hid hy
    rw [hy]
    obtain ⟨bd, hbd⟩ : ∃ bd, (decide (V = 0) || acc.any (ovD V)) = bd := ⟨_, rfl⟩
    have HBD := Lib.hid hbd
    rw [hbd]
    clear hrn hk hpe hRc hb hq hg hy hbd
    cases hx : bHx (chB r p)
    · have hsd : bHx (ch r t (sk t e)) = false := by show bHx (chB r (pk t (sk t e))) = false; rw [HK.out, HP.out]; exact hx
      have hN : rn bHx bHx0 r t i i = (acc, e) := by rw [← HR.out, rn_no hsd, List.append_nil]
      have HNN := Lib.hid hN
      have hSr := (HC.out wr HB.out).1
      have hLr := (HC.out wr HB.out).2
      have hRk : RR = if 100 < lc y 0 then ⟨r, a, l, a, 3⟩ else if bd = true then ⟨r, a, l, a, 11⟩ else ⟨r, e, l ++ [(5, y, (a : Int))], 0, 0⟩ := by
        rw [← HRR.out]
        unfold bkR
        rw [hN, HVV.out]
        simp only
        rw [HY.out, HBD.out]
      have HRK := Lib.hid hRk
      have HSZ := Lib.hid (fun W => rsize_any y W (by omega))
      have hys2 := hys
      have HSR := Lib.hid hSr
      have HLR := Lib.hid hLr
      have hgx := HX.out
      rw [hx] at hgx
      obtain ⟨n, hn⟩ : ∃ n, lc y 0 = n := ⟨_, rfl⟩
      rw [hn] at HSZ HRK
      clear hsd hN hSr hLr hRk hx hn
      have hstop : g < 0 ∨ (0 ≤ g ∧ bDi p = false ∧ ltB r p = false) := by
        by_cases h0 : g < 0
        · exact Or.inl h0
        · rw [decide_eq_true (by omega), Bool.true_and, Bool.or_eq_false_iff] at hgx
          exact Or.inr ⟨by omega, hgx.1, hgx.2⟩
      clear hgx
      rcases hstop with h0 | ⟨h0, hd1, hd2⟩
      rotate_left
      · rw [hd2] at H4
        rw [hd1] at H3
        clear hd1 hd2
        by_cases h100 : 100 < n
        · have h100b : decide ((n : Int) > 100) = true := decide_eq_true (by omega)
          cases bd
          · have hRe : RR = ⟨r, (a : Int), l, (a : Int), 3⟩ := by rw [HRK.out]; exact if_pos h100
            subst hRe
            have HFA := Lib.hid (fail_new S t (a : Int) r v b 3 (a : Int) wr HSR.out)
            go_wp2_with (first | (go_at_call 98; (with_reducible refine (H1.out).mono ?_); rintro e w' ⟨rfl, rfl⟩) | (go_at_call 60; (with_reducible refine (H2.out).mono ?_); rintro e w' ⟨rfl, rfl⟩) | (go_at_call 59; (with_reducible refine (H3.out _).mono ?_); rintro e w' ⟨rfl, rfl⟩) | (go_at_call 62; (with_reducible refine (H4.out).mono ?_); rintro e w' ⟨rfl, rfl⟩) | (go_at_call 69; (with_reducible refine (H5.out _).mono ?_); rintro e w' ⟨rfl, rfl⟩) | (go_at_call 99; (with_reducible refine (H6.out _).mono ?_); rintro e w' ⟨rfl, rfl⟩) | (go_at_call 102; (with_reducible refine (HSZ.out _).mono ?_); rintro e w' ⟨rfl, rfl⟩) | (go_at_call 54; (with_reducible refine HFA.out.mono ?_); (rintro e w5 ⟨rfl, hS5, hg5⟩); (have HADD := Lib.hid (radd_any B S t (a : Int) r v 3 (a : Int) 5 (a : Int) (e : Int) y l w5 hS5 (HSR.out.slgb HLR.out hg5) hB hll)); (have HFO := Lib.hid (fail_old S t (a : Int) r v 3 (a : Int) 11 (a : Int) w5 hS5 (by decide)))) | (go_at_call 58; (with_reducible refine HADD.out.mono ?_); (rintro e w6 ⟨rfl, ⟨v6, hS6, hL6⟩, hb6, _⟩)))
            go_returns
            exact ⟨rfl, ⟨_, _, _, _, v6, _, hS6, hL6, (fun h => absurd h (show ¬ ((3 : Int) = 0) by decide)), (fun _ => ⟨rfl, rfl⟩)⟩, ((HB.out.mono (by omega)).trans (hg5.below hB (by omega))).trans hb6⟩
          · have hRe : RR = ⟨r, (a : Int), l, (a : Int), 3⟩ := by rw [HRK.out]; exact if_pos h100
            subst hRe
            have HFA := Lib.hid (fail_new S t (a : Int) r v b 3 (a : Int) wr HSR.out)
            go_wp2_with (first | (go_at_call 98; (with_reducible refine (H1.out).mono ?_); rintro e w' ⟨rfl, rfl⟩) | (go_at_call 60; (with_reducible refine (H2.out).mono ?_); rintro e w' ⟨rfl, rfl⟩) | (go_at_call 59; (with_reducible refine (H3.out _).mono ?_); rintro e w' ⟨rfl, rfl⟩) | (go_at_call 62; (with_reducible refine (H4.out).mono ?_); rintro e w' ⟨rfl, rfl⟩) | (go_at_call 69; (with_reducible refine (H5.out _).mono ?_); rintro e w' ⟨rfl, rfl⟩) | (go_at_call 99; (with_reducible refine (H6.out _).mono ?_); rintro e w' ⟨rfl, rfl⟩) | (go_at_call 102; (with_reducible refine (HSZ.out _).mono ?_); rintro e w' ⟨rfl, rfl⟩) | (go_at_call 54; (with_reducible refine (HFO.out).mono ?_); rintro e w' ⟨rfl, rfl⟩) | (go_at_call 54; (with_reducible refine HFA.out.mono ?_); (rintro e w5 ⟨rfl, hS5, hg5⟩); (have HADD := Lib.hid (radd_any B S t (a : Int) r v 3 (a : Int) 5 (a : Int) (e : Int) y l w5 hS5 (HSR.out.slgb HLR.out hg5) hB hll)); (have HFO := Lib.hid (fail_old S t (a : Int) r v 3 (a : Int) 11 (a : Int) w5 hS5 (by decide)))) | (go_at_call 58; (with_reducible refine HADD.out.mono ?_); (rintro e w6 ⟨rfl, ⟨v6, hS6, hL6⟩, hb6, _⟩)))
            go_returns
            exact ⟨rfl, ⟨_, _, _, _, v6, _, hS6, hL6, (fun h => absurd h (show ¬ ((3 : Int) = 0) by decide)), (fun _ => ⟨rfl, rfl⟩)⟩, ((HB.out.mono (by omega)).trans (hg5.below hB (by omega))).trans hb6⟩
        · have h100b : decide ((n : Int) > 100) = false := decide_eq_false (by omega)
          cases bd
          · have hRe : RR = ⟨r, (e : Int), l ++ [(5, y, (a : Int))], 0, 0⟩ := by rw [HRK.out, if_neg h100]; exact if_neg (by decide)
            subst hRe
            have HADD := Lib.hid (radd_any B S t (a : Int) r v 0 b 5 (a : Int) (e : Int) y l wr HSR.out HLR.out hB hll)
            go_wp2_with (first | (go_at_call 98; (with_reducible refine (H1.out).mono ?_); rintro e w' ⟨rfl, rfl⟩) | (go_at_call 60; (with_reducible refine (H2.out).mono ?_); rintro e w' ⟨rfl, rfl⟩) | (go_at_call 59; (with_reducible refine (H3.out _).mono ?_); rintro e w' ⟨rfl, rfl⟩) | (go_at_call 62; (with_reducible refine (H4.out).mono ?_); rintro e w' ⟨rfl, rfl⟩) | (go_at_call 69; (with_reducible refine (H5.out _).mono ?_); rintro e w' ⟨rfl, rfl⟩) | (go_at_call 99; (with_reducible refine (H6.out _).mono ?_); rintro e w' ⟨rfl, rfl⟩) | (go_at_call 102; (with_reducible refine (HSZ.out _).mono ?_); rintro e w' ⟨rfl, rfl⟩) | (go_at_call 58; (with_reducible refine HADD.out.mono ?_); (rintro e w6 ⟨rfl, ⟨v6, hS6, hL6⟩, hb6, _⟩)))
            go_returns
            exact ⟨rfl, ⟨_, _, _, _, v6, _, hS6, hL6, (fun _ => ⟨rfl, rfl, rfl, rfl⟩), (fun h => absurd rfl h)⟩, (HB.out.mono (by omega)).trans hb6⟩
          · have hRe : RR = ⟨r, (a : Int), l, (a : Int), 11⟩ := by rw [HRK.out]; exact by rw [if_neg h100]; exact if_pos rfl
            subst hRe
            have HFA := Lib.hid (fail_new S t (a : Int) r v b 11 (a : Int) wr HSR.out)
            go_wp2_with (first | (go_at_call 98; (with_reducible refine (H1.out).mono ?_); rintro e w' ⟨rfl, rfl⟩) | (go_at_call 60; (with_reducible refine (H2.out).mono ?_); rintro e w' ⟨rfl, rfl⟩) | (go_at_call 59; (with_reducible refine (H3.out _).mono ?_); rintro e w' ⟨rfl, rfl⟩) | (go_at_call 62; (with_reducible refine (H4.out).mono ?_); rintro e w' ⟨rfl, rfl⟩) | (go_at_call 69; (with_reducible refine (H5.out _).mono ?_); rintro e w' ⟨rfl, rfl⟩) | (go_at_call 99; (with_reducible refine (H6.out _).mono ?_); rintro e w' ⟨rfl, rfl⟩) | (go_at_call 102; (with_reducible refine (HSZ.out _).mono ?_); rintro e w' ⟨rfl, rfl⟩) | (go_at_call 54; (with_reducible refine HFA.out.mono ?_); (rintro e w5 ⟨rfl, hS5, hg5⟩); (have HADD := Lib.hid (radd_any B S t (a : Int) r v 11 (a : Int) 5 (a : Int) (e : Int) y l w5 hS5 (HSR.out.slgb HLR.out hg5) hB hll)); (have HFO := Lib.hid (fail_old S t (a : Int) r v 11 (a : Int) 11 (a : Int) w5 hS5 (by decide)))) | (go_at_call 58; (with_reducible refine HADD.out.mono ?_); (rintro e w6 ⟨rfl, ⟨v6, hS6, hL6⟩, hb6, _⟩)))
            go_returns
            exact ⟨rfl, ⟨_, _, _, _, v6, _, hS6, hL6, (fun h => absurd h (show ¬ ((11 : Int) = 0) by decide)), (fun _ => ⟨rfl, rfl⟩)⟩, ((HB.out.mono (by omega)).trans (hg5.below hB (by omega))).trans hb6⟩
      · by_cases h100 : 100 < n
        · have h100b : decide ((n : Int) > 100) = true := decide_eq_true (by omega)
          cases bd
          · have hRe : RR = ⟨r, (a : Int), l, (a : Int), 3⟩ := by rw [HRK.out]; exact if_pos h100
            subst hRe
            have HFA := Lib.hid (fail_new S t (a : Int) r v b 3 (a : Int) wr HSR.out)
            go_wp2_with (first | (go_at_call 98; (with_reducible refine (H1.out).mono ?_); rintro e w' ⟨rfl, rfl⟩) | (go_at_call 60; (with_reducible refine (H2.out).mono ?_); rintro e w' ⟨rfl, rfl⟩) | (go_at_call 59; (with_reducible refine (H3.out _).mono ?_); rintro e w' ⟨rfl, rfl⟩) | (go_at_call 62; (with_reducible refine (H4.out).mono ?_); rintro e w' ⟨rfl, rfl⟩) | (go_at_call 69; (with_reducible refine (H5.out _).mono ?_); rintro e w' ⟨rfl, rfl⟩) | (go_at_call 99; (with_reducible refine (H6.out _).mono ?_); rintro e w' ⟨rfl, rfl⟩) | (go_at_call 102; (with_reducible refine (HSZ.out _).mono ?_); rintro e w' ⟨rfl, rfl⟩) | (go_at_call 54; (with_reducible refine HFA.out.mono ?_); (rintro e w5 ⟨rfl, hS5, hg5⟩); (have HADD := Lib.hid (radd_any B S t (a : Int) r v 3 (a : Int) 5 (a : Int) (e : Int) y l w5 hS5 (HSR.out.slgb HLR.out hg5) hB hll)); (have HFO := Lib.hid (fail_old S t (a : Int) r v 3 (a : Int) 11 (a : Int) w5 hS5 (by decide)))) | (go_at_call 58; (with_reducible refine HADD.out.mono ?_); (rintro e w6 ⟨rfl, ⟨v6, hS6, hL6⟩, hb6, _⟩)))
            go_returns
            exact ⟨rfl, ⟨_, _, _, _, v6, _, hS6, hL6, (fun h => absurd h (show ¬ ((3 : Int) = 0) by decide)), (fun _ => ⟨rfl, rfl⟩)⟩, ((HB.out.mono (by omega)).trans (hg5.below hB (by omega))).trans hb6⟩
          · have hRe : RR = ⟨r, (a : Int), l, (a : Int), 3⟩ := by rw [HRK.out]; exact if_pos h100
            subst hRe
            have HFA := Lib.hid (fail_new S t (a : Int) r v b 3 (a : Int) wr HSR.out)
            go_wp2_with (first | (go_at_call 98; (with_reducible refine (H1.out).mono ?_); rintro e w' ⟨rfl, rfl⟩) | (go_at_call 60; (with_reducible refine (H2.out).mono ?_); rintro e w' ⟨rfl, rfl⟩) | (go_at_call 59; (with_reducible refine (H3.out _).mono ?_); rintro e w' ⟨rfl, rfl⟩) | (go_at_call 62; (with_reducible refine (H4.out).mono ?_); rintro e w' ⟨rfl, rfl⟩) | (go_at_call 69; (with_reducible refine (H5.out _).mono ?_); rintro e w' ⟨rfl, rfl⟩) | (go_at_call 99; (with_reducible refine (H6.out _).mono ?_); rintro e w' ⟨rfl, rfl⟩) | (go_at_call 102; (with_reducible refine (HSZ.out _).mono ?_); rintro e w' ⟨rfl, rfl⟩) | (go_at_call 54; (with_reducible refine (HFO.out).mono ?_); rintro e w' ⟨rfl, rfl⟩) | (go_at_call 54; (with_reducible refine HFA.out.mono ?_); (rintro e w5 ⟨rfl, hS5, hg5⟩); (have HADD := Lib.hid (radd_any B S t (a : Int) r v 3 (a : Int) 5 (a : Int) (e : Int) y l w5 hS5 (HSR.out.slgb HLR.out hg5) hB hll)); (have HFO := Lib.hid (fail_old S t (a : Int) r v 3 (a : Int) 11 (a : Int) w5 hS5 (by decide)))) | (go_at_call 58; (with_reducible refine HADD.out.mono ?_); (rintro e w6 ⟨rfl, ⟨v6, hS6, hL6⟩, hb6, _⟩)))
            go_returns
            exact ⟨rfl, ⟨_, _, _, _, v6, _, hS6, hL6, (fun h => absurd h (show ¬ ((3 : Int) = 0) by decide)), (fun _ => ⟨rfl, rfl⟩)⟩, ((HB.out.mono (by omega)).trans (hg5.below hB (by omega))).trans hb6⟩
        · have h100b : decide ((n : Int) > 100) = false := decide_eq_false (by omega)
          cases bd
          · have hRe : RR = ⟨r, (e : Int), l ++ [(5, y, (a : Int))], 0, 0⟩ := by rw [HRK.out, if_neg h100]; exact if_neg (by decide)
            subst hRe
            have HADD := Lib.hid (radd_any B S t (a : Int) r v 0 b 5 (a : Int) (e : Int) y l wr HSR.out HLR.out hB hll)
            go_wp2_with (first | (go_at_call 98; (with_reducible refine (H1.out).mono ?_); rintro e w' ⟨rfl, rfl⟩) | (go_at_call 60; (with_reducible refine (H2.out).mono ?_); rintro e w' ⟨rfl, rfl⟩) | (go_at_call 59; (with_reducible refine (H3.out _).mono ?_); rintro e w' ⟨rfl, rfl⟩) | (go_at_call 62; (with_reducible refine (H4.out).mono ?_); rintro e w' ⟨rfl, rfl⟩) | (go_at_call 69; (with_reducible refine (H5.out _).mono ?_); rintro e w' ⟨rfl, rfl⟩) | (go_at_call 99; (with_reducible refine (H6.out _).mono ?_); rintro e w' ⟨rfl, rfl⟩) | (go_at_call 102; (with_reducible refine (HSZ.out _).mono ?_); rintro e w' ⟨rfl, rfl⟩) | (go_at_call 58; (with_reducible refine HADD.out.mono ?_); (rintro e w6 ⟨rfl, ⟨v6, hS6, hL6⟩, hb6, _⟩)))
            go_returns
            exact ⟨rfl, ⟨_, _, _, _, v6, _, hS6, hL6, (fun _ => ⟨rfl, rfl, rfl, rfl⟩), (fun h => absurd rfl h)⟩, (HB.out.mono (by omega)).trans hb6⟩
          · have hRe : RR = ⟨r, (a : Int), l, (a : Int), 11⟩ := by rw [HRK.out]; exact by rw [if_neg h100]; exact if_pos rfl
            subst hRe
            have HFA := Lib.hid (fail_new S t (a : Int) r v b 11 (a : Int) wr HSR.out)
            go_wp2_with (first | (go_at_call 98; (with_reducible refine (H1.out).mono ?_); rintro e w' ⟨rfl, rfl⟩) | (go_at_call 60; (with_reducible refine (H2.out).mono ?_); rintro e w' ⟨rfl, rfl⟩) | (go_at_call 59; (with_reducible refine (H3.out _).mono ?_); rintro e w' ⟨rfl, rfl⟩) | (go_at_call 62; (with_reducible refine (H4.out).mono ?_); rintro e w' ⟨rfl, rfl⟩) | (go_at_call 69; (with_reducible refine (H5.out _).mono ?_); rintro e w' ⟨rfl, rfl⟩) | (go_at_call 99; (with_reducible refine (H6.out _).mono ?_); rintro e w' ⟨rfl, rfl⟩) | (go_at_call 102; (with_reducible refine (HSZ.out _).mono ?_); rintro e w' ⟨rfl, rfl⟩) | (go_at_call 54; (with_reducible refine HFA.out.mono ?_); (rintro e w5 ⟨rfl, hS5, hg5⟩); (have HADD := Lib.hid (radd_any B S t (a : Int) r v 11 (a : Int) 5 (a : Int) (e : Int) y l w5 hS5 (HSR.out.slgb HLR.out hg5) hB hll)); (have HFO := Lib.hid (fail_old S t (a : Int) r v 11 (a : Int) 11 (a : Int) w5 hS5 (by decide)))) | (go_at_call 58; (with_reducible refine HADD.out.mono ?_); (rintro e w6 ⟨rfl, ⟨v6, hS6, hL6⟩, hb6, _⟩)))
            go_returns
            exact ⟨rfl, ⟨_, _, _, _, v6, _, hS6, hL6, (fun h => absurd h (show ¬ ((11 : Int) = 0) by decide)), (fun _ => ⟨rfl, rfl⟩)⟩, ((HB.out.mono (by omega)).trans (hg5.below hB (by omega))).trans hb6⟩
    · have hlt2 : k < t.size := ch_lt bHx0 (show bHx (ch r t k) = true by show bHx (chB r (pk t k)) = true; rw [HP.out]; exact hx)
      have hpi := (pk_in hlt2).symm
      rw [HP.out] at hpi
      have hgx := HX.out
      rw [hx, Bool.and_eq_true] at hgx
      have hg0 : 0 ≤ g := of_decide_eq_true hgx.1
      have hqc : q = ch r t k := by
        have : loA p = chB r p := by
          cases hlp : ltB r p
          · have h2 := hgx.2
            rw [hlp, Bool.or_false] at h2
            exact lo_chs (r := r) (by rw [h2, Bool.or_true])
          · exact (lo_ch hlp).symm
        rw [← HQ.out, this, ← HP.out]; rfl
      have HN := Lib.hid (show ((acc ++ [cu q]) ++ (rn bHx bHx0 r t (sk t (k + 1)) (k + 1)).1, (rn bHx bHx0 r t (sk t (k + 1)) (k + 1)).2) = rn bHx bHx0 r t i i by
        rw [← HR.out, HK.out, rn_yes (f := bHx) (hf := bHx0) (r := r) (t := t) (i := k) (e := e) (by show bHx (chB r (pk t k)) = true; rw [HP.out]; exact hx), ← hqc, List.append_assoc]; rfl)
      have HOV := Lib.hid (show ovD V (cu q) = decide (V ≤ g) by
        unfold ovD
        rw [cu_nat hlo.1 hlo.2, Int.toNat_of_nonneg hlo.1, HG.out])
      have HBN := Lib.hid (show (decide (V = 0) || (acc ++ [cu q]).any (ovD V)) = (bd || decide (V ≤ g)) by
        rw [List.any_append, List.any_cons, List.any_nil, Bool.or_false, ← Bool.or_assoc, HBD.out, HOV.out])
      have HYN := Lib.hid (show (⟨(ql ++ 114 :: (acc ++ [cu q])).toArray⟩ : ByteArray) = y ++ ⟨#[cu q]⟩ by
        rw [← HY.out, app_one, List.append_assoc]; rfl)
      have hor := hgx.2
      have hwz2 : w.heap.size ≤ wr.heap.size := hwz
      clear hgx hqc hx
      cases bd
      · exact absurd HBD.out (by rw [HV0.out]; simp)
      · have HBF := Lib.hid (show (decide (V = 0) || (acc ++ [cu q]).any (ovD V)) = true by rw [HBN.out]; rfl)
        rcases Bool.eq_false_or_eq_true (bDi p) with hd1 | hd1
        · rw [hd1] at H3
          clear hd1 hor
          go_wp2_with (first | (go_at_call 98; (with_reducible refine (H1.out).mono ?_); rintro e w' ⟨rfl, rfl⟩) | (go_at_call 60; (with_reducible refine (H2.out).mono ?_); rintro e w' ⟨rfl, rfl⟩) | (go_at_call 59; (with_reducible refine (H3.out _).mono ?_); rintro e w' ⟨rfl, rfl⟩) | (go_at_call 62; (with_reducible refine (H4.out).mono ?_); rintro e w' ⟨rfl, rfl⟩) | (go_at_call 69; (with_reducible refine (H5.out _).mono ?_); rintro e w' ⟨rfl, rfl⟩) | (go_at_call 99; (with_reducible refine (H6.out _).mono ?_); rintro e w' ⟨rfl, rfl⟩))
          go_roundw
          case rel => exact ⟨acc ++ [cu q], k + 1, by omega, by simp; omega, hlt2, HN.out, by rw [HYN.out], by go_num, by rw [HBF.out], HB.out.alloc hwz2 _⟩
          case measure => simp [intOf]; omega
        · have hd2 : ltB r p = true := by rw [hd1, Bool.false_or] at hor; exact hor
          rw [hd1] at H3
          rw [hd2] at H4
          clear hd1 hd2 hor
          go_wp2_with (first | (go_at_call 98; (with_reducible refine (H1.out).mono ?_); rintro e w' ⟨rfl, rfl⟩) | (go_at_call 60; (with_reducible refine (H2.out).mono ?_); rintro e w' ⟨rfl, rfl⟩) | (go_at_call 59; (with_reducible refine (H3.out _).mono ?_); rintro e w' ⟨rfl, rfl⟩) | (go_at_call 62; (with_reducible refine (H4.out).mono ?_); rintro e w' ⟨rfl, rfl⟩) | (go_at_call 69; (with_reducible refine (H5.out _).mono ?_); rintro e w' ⟨rfl, rfl⟩) | (go_at_call 99; (with_reducible refine (H6.out _).mono ?_); rintro e w' ⟨rfl, rfl⟩))
          go_roundw
          case rel => exact ⟨acc ++ [cu q], k + 1, by omega, by simp; omega, hlt2, HN.out, by rw [HYN.out], by go_num, by rw [HBF.out], HB.out.alloc hwz2 _⟩
          case measure => simp [intOf]; omega
theorem dg_2 : (∀ j, j < (⟨#[50]⟩ : ByteArray).size → 48 ≤ pk ⟨#[50]⟩ j ∧ pk ⟨#[50]⟩ j ≤ 57) ∧ dvx ⟨#[50]⟩ (⟨#[50]⟩ : ByteArray).size = 2 ∧ (⟨#[50]⟩ : ByteArray).size ≤ 2 := by
  refine ⟨?_, by decide, by decide⟩
  intro j h
  match j, h with
  | 0, _ => decide
  | 1, h => exact absurd (show 1 < 1 from h) (by omega)
  | j + 2, h => exact absurd (show j + 2 < 1 from h) (by omega)
set_option maxRecDepth 100000 in
set_option maxHeartbeats 8000000 in
theorem rbits_r2 (B S a i : Nat) (t x : ByteArray) (ql : List UInt8) (hxq : x = ⟨ql.toArray⟩) (r b : Int) (v : Value) (l : List Sy) (w : World) (hS : Rc w S t (a : Int) r v 0 b) (hL : Sl w B v l) (hB : B ≤ S) (hl : t.size ≤ 100000) (hll : l.length ≤ 1000000) (hi : i ≤ t.size) (hsk : sk t i = i) (hql : ql.length ≤ 100000) (V : Int) (hV : rdV ql = V) (hqe : ql = [50]) :
    Calls Tryz.prog 100 #[.pointer (some ⟨S, 0, none⟩), .string x, .int .i64 (a : Int), .int .i64 (i : Int)] w (RPo B S t w (bkR r t a i ql l)) := by
  have hlt := hS.lt
  have HC : Hid (∀ W, Below w.heap.size w W → Rc W S t (a : Int) r v 0 b ∧ Sl W B v l) := Lib.hid (fun W hb => ⟨hS.kept hb, hS.sl hL hb⟩)
  have HI := Lib.hid hi
  have HSK := Lib.hid hsk
  have HVV := Lib.hid hV
  have HXQ := Lib.hid hxq
  have hxs : x.size ≤ 100000 := by rw [hxq]; show ql.toArray.size ≤ _; rw [List.size_toArray]; exact hql
  have HAP : Hid (x ++ ⟨#[114]⟩ = ⟨(ql ++ [114]).toArray⟩) := Lib.hid (by rw [hxq]; exact app_one ql 114)
  obtain ⟨RR, hRR⟩ : ∃ R, bkR r t a i ql l = R := ⟨_, rfl⟩
  rw [hRR]
  have HRR := Lib.hid hRR
  have k2 : (x.toList == [50]) = true := by rw [hxq, hqe, ByteArray.toList_eq]; rfl
  have k4 : (x.toList == [52]) = false := by rw [hxq, hqe, ByteArray.toList_eq]; decide
  have k8 : (x.toList == [56]) = false := by rw [hxq, hqe, ByteArray.toList_eq]; decide
  have k16 : (x.toList == [49, 54]) = false := by rw [hxq, hqe, ByteArray.toList_eq]; decide
  have hxc : x = ⟨#[50]⟩ := by rw [hxq, hqe]
  have HDG : Hid (∀ j, j < x.size → 48 ≤ pk x j ∧ pk x j ≤ 57) := Lib.hid (by rw [hxc]; exact dg_2.1)
  have HDV : Hid (dvx x x.size = V) := Lib.hid (by rw [hxc, ← hV, hqe]; exact dg_2.2.1)
  have hx2 : x.size ≤ 2 := by rw [hxc]; exact dg_2.2.2
  have HVP : Hid (V ≠ 0) := Lib.hid (by rw [← hV, hqe]; decide)
  have hVb : V ≤ 16 := by rw [← hV, hqe]; decide
  have hVb0 : 2 ≤ V := by rw [← hV, hqe]; decide
  clear hxc hqe
  clear hS hL hsk hi hRR hV hxq
  go_enter Tryz.func100, Tryz.ntmps100
  go_wp2
  go_loop [11, 12] (fun v11 v12 => ∃ k : Nat, k ≤ x.size ∧ v12 = .int .i64 k ∧ v11 = .int .i64 (dvx x k)) (fun _ v12 => x.size - (intOf v12).toNat)
  case atStart => exact ⟨0, Nat.zero_le _, rfl, rfl⟩
  case round =>
    obtain ⟨k, hk, rfl, rfl⟩ := hrel
    by_cases hkx : k < x.size
    · have hd := HDG.out k hkx
      have hpi := (pk_in hkx).symm
      have hv := dv_bd HDG.out k hk (by omega)
      have HN := Lib.hid (show dvx x (k + 1) = 10 * dvx x k + (pk x k - 48) from rfl)
      obtain ⟨p, hp⟩ : ∃ p, pk x k = p := ⟨_, rfl⟩
      obtain ⟨u, hu⟩ : ∃ u, dvx x k = u := ⟨_, rfl⟩
      rw [hp] at hd hpi HN
      rw [hu] at hv HN
      rw [hu]
      clear hp hu
      go_wp2
      go_round
      case rel => exact ⟨k + 1, hkx, by go_num, by rw [HN.out]⟩
      case measure => simp [intOf]; omega
    · have hke : k = x.size := by omega
      subst hke
      rw [HDV.out]
      go_wp2
      go_loopw [8, 9, 10] (fun v8 v9 v10 wr => ∃ (acc : List UInt8) (e : Nat), i ≤ e ∧ acc.length ≤ e ∧ e ≤ t.size ∧ (acc ++ (rn bHx bHx0 r t (sk t e) e).1, (rn bHx bHx0 r t (sk t e) e).2) = rn bHx bHx0 r t i i ∧ v8 = .string ⟨(ql ++ 114 :: acc).toArray⟩ ∧ v9 = .int .i64 e ∧ v10 = .bool (decide (V = 0) || acc.any (ovD V)) ∧ Below w.heap.size w wr) (fun _ v9 _ _ => t.size - (intOf v9).toNat)
      case atStart => exact ⟨[], i, Nat.le_refl _, Nat.zero_le _, HI.out, by rw [HSK.out]; rfl, by rw [HAP.out], rfl, by rw [decide_eq_false HVP.out]; rfl, Below.refl _ w⟩
      case round =>
        obtain ⟨acc, e, hie, hal, he, hrn, rfl, rfl, rfl, hb⟩ := hrel
        have hks := sk_ge t e
        have hkl := sk_le he
        have hRc := (HC.out wr hb).1
        have c0 := hRc.c0
        have H1 := Lib.hid (behind_any t S e wr c0 hl (by omega))
        have H2 := Lib.hid (at_any t S (sk t e) wr c0 hl (by omega))
        have HR := Lib.hid hrn
        obtain ⟨k, hk⟩ : ∃ k, sk t e = k := ⟨_, rfl⟩
        have HK := Lib.hid hk
        rw [hk] at H1 H2 hks hkl
        have hp := pk_bd t k
        obtain ⟨p, hpe⟩ : ∃ p, pk t k = p := ⟨_, rfl⟩
        have HP := Lib.hid hpe
        rw [hpe] at hp H2
        have hlo := lo_bd hp.1 hp.2
        have H3 := Lib.hid (fun w => rb_di p w hp.1 hp.2)
        have H4 := Lib.hid (letter_any S r p wr hRc.c2 hp.1 hp.2)
        have H5 := Lib.hid (fun w => rb_lo p w hp.1 hp.2)
        have H6 := Lib.hid (fun w => rb_hx (loA p) w hlo.1 hlo.2)
        have hhb := hx_bd (loA p)
        have HX := Lib.hid (hx_ch r p)
        have hal2 : acc.length ≤ 100000 := by omega
        have hwz := hb.size
        have HB := Lib.hid hb
        have HCV := fun W => conv_one (loA p) hlo.1 hlo.2 W
        obtain ⟨q, hq⟩ : ∃ q, loA p = q := ⟨_, rfl⟩
        have HQ := Lib.hid hq
        rw [hq] at H5 H6 hhb HX HCV hlo
        obtain ⟨g, hg⟩ : ∃ g, hxA q = g := ⟨_, rfl⟩
        have HG := Lib.hid hg
        rw [hg] at H6 hhb HX
        obtain ⟨y, hy⟩ : ∃ y, (⟨(ql ++ 114 :: acc).toArray⟩ : ByteArray) = y := ⟨_, rfl⟩
        have hys : y.size ≤ 300000 := by rw [← hy]; show (ql ++ 114 :: acc).toArray.size ≤ _; rw [List.size_toArray, List.length_append, List.length_cons]; omega
        have HY := Lib.hid hy
        rw [hy]
        obtain ⟨bd, hbd⟩ : ∃ bd, (decide (V = 0) || acc.any (ovD V)) = bd := ⟨_, rfl⟩
        have HBD := Lib.hid hbd
        rw [hbd]
        clear hrn hk hpe hRc hb hq hg hy hbd
        cases hx : bHx (chB r p)
        · have hsd : bHx (ch r t (sk t e)) = false := by show bHx (chB r (pk t (sk t e))) = false; rw [HK.out, HP.out]; exact hx
          have hN : rn bHx bHx0 r t i i = (acc, e) := by rw [← HR.out, rn_no hsd, List.append_nil]
          have HNN := Lib.hid hN
          have hSr := (HC.out wr HB.out).1
          have hLr := (HC.out wr HB.out).2
          have hRk : RR = if 100 < lc y 0 then ⟨r, a, l, a, 3⟩ else if bd = true then ⟨r, a, l, a, 11⟩ else ⟨r, e, l ++ [(5, y, (a : Int))], 0, 0⟩ := by
            rw [← HRR.out]
            unfold bkR
            rw [hN, HVV.out]
            simp only
            rw [HY.out, HBD.out]
          have HRK := Lib.hid hRk
          have HSZ := Lib.hid (fun W => rsize_any y W (by omega))
          have hys2 := hys
          have HSR := Lib.hid hSr
          have HLR := Lib.hid hLr
          have hgx := HX.out
          rw [hx] at hgx
          obtain ⟨n, hn⟩ : ∃ n, lc y 0 = n := ⟨_, rfl⟩
          rw [hn] at HSZ HRK
          clear hsd hN hSr hLr hRk hx hn
          have hstop : g < 0 ∨ (0 ≤ g ∧ bDi p = false ∧ ltB r p = false) := by
            by_cases h0 : g < 0
            · exact Or.inl h0
            · rw [decide_eq_true (by omega), Bool.true_and, Bool.or_eq_false_iff] at hgx
              exact Or.inr ⟨by omega, hgx.1, hgx.2⟩
          clear hgx
          rcases hstop with h0 | ⟨h0, hd1, hd2⟩
          rotate_left
          · rw [hd2] at H4
            rw [hd1] at H3
            clear hd1 hd2
            by_cases h100 : 100 < n
            · have h100b : decide ((n : Int) > 100) = true := decide_eq_true (by omega)
              cases bd
              · have hRe : RR = ⟨r, (a : Int), l, (a : Int), 3⟩ := by rw [HRK.out]; exact if_pos h100
                subst hRe
                have HFA := Lib.hid (fail_new S t (a : Int) r v b 3 (a : Int) wr HSR.out)
                go_wp2_with (first | (go_at_call 98; (with_reducible refine (H1.out).mono ?_); rintro e w' ⟨rfl, rfl⟩) | (go_at_call 60; (with_reducible refine (H2.out).mono ?_); rintro e w' ⟨rfl, rfl⟩) | (go_at_call 59; (with_reducible refine (H3.out _).mono ?_); rintro e w' ⟨rfl, rfl⟩) | (go_at_call 62; (with_reducible refine (H4.out).mono ?_); rintro e w' ⟨rfl, rfl⟩) | (go_at_call 69; (with_reducible refine (H5.out _).mono ?_); rintro e w' ⟨rfl, rfl⟩) | (go_at_call 99; (with_reducible refine (H6.out _).mono ?_); rintro e w' ⟨rfl, rfl⟩) | (go_at_call 102; (with_reducible refine (HSZ.out _).mono ?_); rintro e w' ⟨rfl, rfl⟩) | (go_at_call 54; (with_reducible refine HFA.out.mono ?_); (rintro e w5 ⟨rfl, hS5, hg5⟩); (have HADD := Lib.hid (radd_any B S t (a : Int) r v 3 (a : Int) 5 (a : Int) (e : Int) y l w5 hS5 (HSR.out.slgb HLR.out hg5) hB hll)); (have HFO := Lib.hid (fail_old S t (a : Int) r v 3 (a : Int) 11 (a : Int) w5 hS5 (by decide)))) | (go_at_call 58; (with_reducible refine HADD.out.mono ?_); (rintro e w6 ⟨rfl, ⟨v6, hS6, hL6⟩, hb6, _⟩)))
                go_returns
                exact ⟨rfl, ⟨_, _, _, _, v6, _, hS6, hL6, (fun h => absurd h (show ¬ ((3 : Int) = 0) by decide)), (fun _ => ⟨rfl, rfl⟩)⟩, ((HB.out.mono (by omega)).trans (hg5.below hB (by omega))).trans hb6⟩
              · have hRe : RR = ⟨r, (a : Int), l, (a : Int), 3⟩ := by rw [HRK.out]; exact if_pos h100
                subst hRe
                have HFA := Lib.hid (fail_new S t (a : Int) r v b 3 (a : Int) wr HSR.out)
                go_wp2_with (first | (go_at_call 98; (with_reducible refine (H1.out).mono ?_); rintro e w' ⟨rfl, rfl⟩) | (go_at_call 60; (with_reducible refine (H2.out).mono ?_); rintro e w' ⟨rfl, rfl⟩) | (go_at_call 59; (with_reducible refine (H3.out _).mono ?_); rintro e w' ⟨rfl, rfl⟩) | (go_at_call 62; (with_reducible refine (H4.out).mono ?_); rintro e w' ⟨rfl, rfl⟩) | (go_at_call 69; (with_reducible refine (H5.out _).mono ?_); rintro e w' ⟨rfl, rfl⟩) | (go_at_call 99; (with_reducible refine (H6.out _).mono ?_); rintro e w' ⟨rfl, rfl⟩) | (go_at_call 102; (with_reducible refine (HSZ.out _).mono ?_); rintro e w' ⟨rfl, rfl⟩) | (go_at_call 54; (with_reducible refine (HFO.out).mono ?_); rintro e w' ⟨rfl, rfl⟩) | (go_at_call 54; (with_reducible refine HFA.out.mono ?_); (rintro e w5 ⟨rfl, hS5, hg5⟩); (have HADD := Lib.hid (radd_any B S t (a : Int) r v 3 (a : Int) 5 (a : Int) (e : Int) y l w5 hS5 (HSR.out.slgb HLR.out hg5) hB hll)); (have HFO := Lib.hid (fail_old S t (a : Int) r v 3 (a : Int) 11 (a : Int) w5 hS5 (by decide)))) | (go_at_call 58; (with_reducible refine HADD.out.mono ?_); (rintro e w6 ⟨rfl, ⟨v6, hS6, hL6⟩, hb6, _⟩)))
                go_returns
                exact ⟨rfl, ⟨_, _, _, _, v6, _, hS6, hL6, (fun h => absurd h (show ¬ ((3 : Int) = 0) by decide)), (fun _ => ⟨rfl, rfl⟩)⟩, ((HB.out.mono (by omega)).trans (hg5.below hB (by omega))).trans hb6⟩
            · have h100b : decide ((n : Int) > 100) = false := decide_eq_false (by omega)
              cases bd
              · have hRe : RR = ⟨r, (e : Int), l ++ [(5, y, (a : Int))], 0, 0⟩ := by rw [HRK.out, if_neg h100]; exact if_neg (by decide)
                subst hRe
                have HADD := Lib.hid (radd_any B S t (a : Int) r v 0 b 5 (a : Int) (e : Int) y l wr HSR.out HLR.out hB hll)
                go_wp2_with (first | (go_at_call 98; (with_reducible refine (H1.out).mono ?_); rintro e w' ⟨rfl, rfl⟩) | (go_at_call 60; (with_reducible refine (H2.out).mono ?_); rintro e w' ⟨rfl, rfl⟩) | (go_at_call 59; (with_reducible refine (H3.out _).mono ?_); rintro e w' ⟨rfl, rfl⟩) | (go_at_call 62; (with_reducible refine (H4.out).mono ?_); rintro e w' ⟨rfl, rfl⟩) | (go_at_call 69; (with_reducible refine (H5.out _).mono ?_); rintro e w' ⟨rfl, rfl⟩) | (go_at_call 99; (with_reducible refine (H6.out _).mono ?_); rintro e w' ⟨rfl, rfl⟩) | (go_at_call 102; (with_reducible refine (HSZ.out _).mono ?_); rintro e w' ⟨rfl, rfl⟩) | (go_at_call 58; (with_reducible refine HADD.out.mono ?_); (rintro e w6 ⟨rfl, ⟨v6, hS6, hL6⟩, hb6, _⟩)))
                go_returns
                exact ⟨rfl, ⟨_, _, _, _, v6, _, hS6, hL6, (fun _ => ⟨rfl, rfl, rfl, rfl⟩), (fun h => absurd rfl h)⟩, (HB.out.mono (by omega)).trans hb6⟩
              · have hRe : RR = ⟨r, (a : Int), l, (a : Int), 11⟩ := by rw [HRK.out]; exact by rw [if_neg h100]; exact if_pos rfl
                subst hRe
                have HFA := Lib.hid (fail_new S t (a : Int) r v b 11 (a : Int) wr HSR.out)
                go_wp2_with (first | (go_at_call 98; (with_reducible refine (H1.out).mono ?_); rintro e w' ⟨rfl, rfl⟩) | (go_at_call 60; (with_reducible refine (H2.out).mono ?_); rintro e w' ⟨rfl, rfl⟩) | (go_at_call 59; (with_reducible refine (H3.out _).mono ?_); rintro e w' ⟨rfl, rfl⟩) | (go_at_call 62; (with_reducible refine (H4.out).mono ?_); rintro e w' ⟨rfl, rfl⟩) | (go_at_call 69; (with_reducible refine (H5.out _).mono ?_); rintro e w' ⟨rfl, rfl⟩) | (go_at_call 99; (with_reducible refine (H6.out _).mono ?_); rintro e w' ⟨rfl, rfl⟩) | (go_at_call 102; (with_reducible refine (HSZ.out _).mono ?_); rintro e w' ⟨rfl, rfl⟩) | (go_at_call 54; (with_reducible refine HFA.out.mono ?_); (rintro e w5 ⟨rfl, hS5, hg5⟩); (have HADD := Lib.hid (radd_any B S t (a : Int) r v 11 (a : Int) 5 (a : Int) (e : Int) y l w5 hS5 (HSR.out.slgb HLR.out hg5) hB hll)); (have HFO := Lib.hid (fail_old S t (a : Int) r v 11 (a : Int) 11 (a : Int) w5 hS5 (by decide)))) | (go_at_call 58; (with_reducible refine HADD.out.mono ?_); (rintro e w6 ⟨rfl, ⟨v6, hS6, hL6⟩, hb6, _⟩)))
                go_returns
                exact ⟨rfl, ⟨_, _, _, _, v6, _, hS6, hL6, (fun h => absurd h (show ¬ ((11 : Int) = 0) by decide)), (fun _ => ⟨rfl, rfl⟩)⟩, ((HB.out.mono (by omega)).trans (hg5.below hB (by omega))).trans hb6⟩
          · by_cases h100 : 100 < n
            · have h100b : decide ((n : Int) > 100) = true := decide_eq_true (by omega)
              cases bd
              · have hRe : RR = ⟨r, (a : Int), l, (a : Int), 3⟩ := by rw [HRK.out]; exact if_pos h100
                subst hRe
                have HFA := Lib.hid (fail_new S t (a : Int) r v b 3 (a : Int) wr HSR.out)
                go_wp2_with (first | (go_at_call 98; (with_reducible refine (H1.out).mono ?_); rintro e w' ⟨rfl, rfl⟩) | (go_at_call 60; (with_reducible refine (H2.out).mono ?_); rintro e w' ⟨rfl, rfl⟩) | (go_at_call 59; (with_reducible refine (H3.out _).mono ?_); rintro e w' ⟨rfl, rfl⟩) | (go_at_call 62; (with_reducible refine (H4.out).mono ?_); rintro e w' ⟨rfl, rfl⟩) | (go_at_call 69; (with_reducible refine (H5.out _).mono ?_); rintro e w' ⟨rfl, rfl⟩) | (go_at_call 99; (with_reducible refine (H6.out _).mono ?_); rintro e w' ⟨rfl, rfl⟩) | (go_at_call 102; (with_reducible refine (HSZ.out _).mono ?_); rintro e w' ⟨rfl, rfl⟩) | (go_at_call 54; (with_reducible refine HFA.out.mono ?_); (rintro e w5 ⟨rfl, hS5, hg5⟩); (have HADD := Lib.hid (radd_any B S t (a : Int) r v 3 (a : Int) 5 (a : Int) (e : Int) y l w5 hS5 (HSR.out.slgb HLR.out hg5) hB hll)); (have HFO := Lib.hid (fail_old S t (a : Int) r v 3 (a : Int) 11 (a : Int) w5 hS5 (by decide)))) | (go_at_call 58; (with_reducible refine HADD.out.mono ?_); (rintro e w6 ⟨rfl, ⟨v6, hS6, hL6⟩, hb6, _⟩)))
                go_returns
                exact ⟨rfl, ⟨_, _, _, _, v6, _, hS6, hL6, (fun h => absurd h (show ¬ ((3 : Int) = 0) by decide)), (fun _ => ⟨rfl, rfl⟩)⟩, ((HB.out.mono (by omega)).trans (hg5.below hB (by omega))).trans hb6⟩
              · have hRe : RR = ⟨r, (a : Int), l, (a : Int), 3⟩ := by rw [HRK.out]; exact if_pos h100
                subst hRe
                have HFA := Lib.hid (fail_new S t (a : Int) r v b 3 (a : Int) wr HSR.out)
                go_wp2_with (first | (go_at_call 98; (with_reducible refine (H1.out).mono ?_); rintro e w' ⟨rfl, rfl⟩) | (go_at_call 60; (with_reducible refine (H2.out).mono ?_); rintro e w' ⟨rfl, rfl⟩) | (go_at_call 59; (with_reducible refine (H3.out _).mono ?_); rintro e w' ⟨rfl, rfl⟩) | (go_at_call 62; (with_reducible refine (H4.out).mono ?_); rintro e w' ⟨rfl, rfl⟩) | (go_at_call 69; (with_reducible refine (H5.out _).mono ?_); rintro e w' ⟨rfl, rfl⟩) | (go_at_call 99; (with_reducible refine (H6.out _).mono ?_); rintro e w' ⟨rfl, rfl⟩) | (go_at_call 102; (with_reducible refine (HSZ.out _).mono ?_); rintro e w' ⟨rfl, rfl⟩) | (go_at_call 54; (with_reducible refine (HFO.out).mono ?_); rintro e w' ⟨rfl, rfl⟩) | (go_at_call 54; (with_reducible refine HFA.out.mono ?_); (rintro e w5 ⟨rfl, hS5, hg5⟩); (have HADD := Lib.hid (radd_any B S t (a : Int) r v 3 (a : Int) 5 (a : Int) (e : Int) y l w5 hS5 (HSR.out.slgb HLR.out hg5) hB hll)); (have HFO := Lib.hid (fail_old S t (a : Int) r v 3 (a : Int) 11 (a : Int) w5 hS5 (by decide)))) | (go_at_call 58; (with_reducible refine HADD.out.mono ?_); (rintro e w6 ⟨rfl, ⟨v6, hS6, hL6⟩, hb6, _⟩)))
                go_returns
                exact ⟨rfl, ⟨_, _, _, _, v6, _, hS6, hL6, (fun h => absurd h (show ¬ ((3 : Int) = 0) by decide)), (fun _ => ⟨rfl, rfl⟩)⟩, ((HB.out.mono (by omega)).trans (hg5.below hB (by omega))).trans hb6⟩
            · have h100b : decide ((n : Int) > 100) = false := decide_eq_false (by omega)
              cases bd
              · have hRe : RR = ⟨r, (e : Int), l ++ [(5, y, (a : Int))], 0, 0⟩ := by rw [HRK.out, if_neg h100]; exact if_neg (by decide)
                subst hRe
                have HADD := Lib.hid (radd_any B S t (a : Int) r v 0 b 5 (a : Int) (e : Int) y l wr HSR.out HLR.out hB hll)
                go_wp2_with (first | (go_at_call 98; (with_reducible refine (H1.out).mono ?_); rintro e w' ⟨rfl, rfl⟩) | (go_at_call 60; (with_reducible refine (H2.out).mono ?_); rintro e w' ⟨rfl, rfl⟩) | (go_at_call 59; (with_reducible refine (H3.out _).mono ?_); rintro e w' ⟨rfl, rfl⟩) | (go_at_call 62; (with_reducible refine (H4.out).mono ?_); rintro e w' ⟨rfl, rfl⟩) | (go_at_call 69; (with_reducible refine (H5.out _).mono ?_); rintro e w' ⟨rfl, rfl⟩) | (go_at_call 99; (with_reducible refine (H6.out _).mono ?_); rintro e w' ⟨rfl, rfl⟩) | (go_at_call 102; (with_reducible refine (HSZ.out _).mono ?_); rintro e w' ⟨rfl, rfl⟩) | (go_at_call 58; (with_reducible refine HADD.out.mono ?_); (rintro e w6 ⟨rfl, ⟨v6, hS6, hL6⟩, hb6, _⟩)))
                go_returns
                exact ⟨rfl, ⟨_, _, _, _, v6, _, hS6, hL6, (fun _ => ⟨rfl, rfl, rfl, rfl⟩), (fun h => absurd rfl h)⟩, (HB.out.mono (by omega)).trans hb6⟩
              · have hRe : RR = ⟨r, (a : Int), l, (a : Int), 11⟩ := by rw [HRK.out]; exact by rw [if_neg h100]; exact if_pos rfl
                subst hRe
                have HFA := Lib.hid (fail_new S t (a : Int) r v b 11 (a : Int) wr HSR.out)
                go_wp2_with (first | (go_at_call 98; (with_reducible refine (H1.out).mono ?_); rintro e w' ⟨rfl, rfl⟩) | (go_at_call 60; (with_reducible refine (H2.out).mono ?_); rintro e w' ⟨rfl, rfl⟩) | (go_at_call 59; (with_reducible refine (H3.out _).mono ?_); rintro e w' ⟨rfl, rfl⟩) | (go_at_call 62; (with_reducible refine (H4.out).mono ?_); rintro e w' ⟨rfl, rfl⟩) | (go_at_call 69; (with_reducible refine (H5.out _).mono ?_); rintro e w' ⟨rfl, rfl⟩) | (go_at_call 99; (with_reducible refine (H6.out _).mono ?_); rintro e w' ⟨rfl, rfl⟩) | (go_at_call 102; (with_reducible refine (HSZ.out _).mono ?_); rintro e w' ⟨rfl, rfl⟩) | (go_at_call 54; (with_reducible refine HFA.out.mono ?_); (rintro e w5 ⟨rfl, hS5, hg5⟩); (have HADD := Lib.hid (radd_any B S t (a : Int) r v 11 (a : Int) 5 (a : Int) (e : Int) y l w5 hS5 (HSR.out.slgb HLR.out hg5) hB hll)); (have HFO := Lib.hid (fail_old S t (a : Int) r v 11 (a : Int) 11 (a : Int) w5 hS5 (by decide)))) | (go_at_call 58; (with_reducible refine HADD.out.mono ?_); (rintro e w6 ⟨rfl, ⟨v6, hS6, hL6⟩, hb6, _⟩)))
                go_returns
                exact ⟨rfl, ⟨_, _, _, _, v6, _, hS6, hL6, (fun h => absurd h (show ¬ ((11 : Int) = 0) by decide)), (fun _ => ⟨rfl, rfl⟩)⟩, ((HB.out.mono (by omega)).trans (hg5.below hB (by omega))).trans hb6⟩
        · have hlt2 : k < t.size := ch_lt bHx0 (show bHx (ch r t k) = true by show bHx (chB r (pk t k)) = true; rw [HP.out]; exact hx)
          have hpi := (pk_in hlt2).symm
          rw [HP.out] at hpi
          have hgx := HX.out
          rw [hx, Bool.and_eq_true] at hgx
          have hg0 : 0 ≤ g := of_decide_eq_true hgx.1
          have hqc : q = ch r t k := by
            have : loA p = chB r p := by
              cases hlp : ltB r p
              · have h2 := hgx.2
                rw [hlp, Bool.or_false] at h2
                exact lo_chs (r := r) (by rw [h2, Bool.or_true])
              · exact (lo_ch hlp).symm
            rw [← HQ.out, this, ← HP.out]; rfl
          have HN := Lib.hid (show ((acc ++ [cu q]) ++ (rn bHx bHx0 r t (sk t (k + 1)) (k + 1)).1, (rn bHx bHx0 r t (sk t (k + 1)) (k + 1)).2) = rn bHx bHx0 r t i i by
            rw [← HR.out, HK.out, rn_yes (f := bHx) (hf := bHx0) (r := r) (t := t) (i := k) (e := e) (by show bHx (chB r (pk t k)) = true; rw [HP.out]; exact hx), ← hqc, List.append_assoc]; rfl)
          have HOV := Lib.hid (show ovD V (cu q) = decide (V ≤ g) by
            unfold ovD
            rw [cu_nat hlo.1 hlo.2, Int.toNat_of_nonneg hlo.1, HG.out])
          have HBN := Lib.hid (show (decide (V = 0) || (acc ++ [cu q]).any (ovD V)) = (bd || decide (V ≤ g)) by
            rw [List.any_append, List.any_cons, List.any_nil, Bool.or_false, ← Bool.or_assoc, HBD.out, HOV.out])
          have HYN := Lib.hid (show (⟨(ql ++ 114 :: (acc ++ [cu q])).toArray⟩ : ByteArray) = y ++ ⟨#[cu q]⟩ by
            rw [← HY.out, app_one, List.append_assoc]; rfl)
          have hor := hgx.2
          have hwz2 : w.heap.size ≤ wr.heap.size := hwz
          clear hgx hqc hx
          cases bd
          · by_cases hvg : V ≤ g
            · have hgv : decide (g ≥ V) = true := decide_eq_true hvg
              have HBF := Lib.hid (show (decide (V = 0) || (acc ++ [cu q]).any (ovD V)) = true by rw [HBN.out, decide_eq_true hvg]; rfl)
              rcases Bool.eq_false_or_eq_true (bDi p) with hd1 | hd1
              · rw [hd1] at H3
                clear hd1 hor
                go_wp2_with (first | (go_at_call 98; (with_reducible refine (H1.out).mono ?_); rintro e w' ⟨rfl, rfl⟩) | (go_at_call 60; (with_reducible refine (H2.out).mono ?_); rintro e w' ⟨rfl, rfl⟩) | (go_at_call 59; (with_reducible refine (H3.out _).mono ?_); rintro e w' ⟨rfl, rfl⟩) | (go_at_call 62; (with_reducible refine (H4.out).mono ?_); rintro e w' ⟨rfl, rfl⟩) | (go_at_call 69; (with_reducible refine (H5.out _).mono ?_); rintro e w' ⟨rfl, rfl⟩) | (go_at_call 99; (with_reducible refine (H6.out _).mono ?_); rintro e w' ⟨rfl, rfl⟩))
                go_roundw
                case rel => exact ⟨acc ++ [cu q], k + 1, by omega, by simp; omega, hlt2, HN.out, by rw [HYN.out], by go_num, by rw [HBF.out], HB.out.alloc hwz2 _⟩
                case measure => simp [intOf]; omega
              · have hd2 : ltB r p = true := by rw [hd1, Bool.false_or] at hor; exact hor
                rw [hd1] at H3
                rw [hd2] at H4
                clear hd1 hd2 hor
                go_wp2_with (first | (go_at_call 98; (with_reducible refine (H1.out).mono ?_); rintro e w' ⟨rfl, rfl⟩) | (go_at_call 60; (with_reducible refine (H2.out).mono ?_); rintro e w' ⟨rfl, rfl⟩) | (go_at_call 59; (with_reducible refine (H3.out _).mono ?_); rintro e w' ⟨rfl, rfl⟩) | (go_at_call 62; (with_reducible refine (H4.out).mono ?_); rintro e w' ⟨rfl, rfl⟩) | (go_at_call 69; (with_reducible refine (H5.out _).mono ?_); rintro e w' ⟨rfl, rfl⟩) | (go_at_call 99; (with_reducible refine (H6.out _).mono ?_); rintro e w' ⟨rfl, rfl⟩))
                go_roundw
                case rel => exact ⟨acc ++ [cu q], k + 1, by omega, by simp; omega, hlt2, HN.out, by rw [HYN.out], by go_num, by rw [HBF.out], HB.out.alloc hwz2 _⟩
                case measure => simp [intOf]; omega
            · have hgv : decide (g ≥ V) = false := decide_eq_false hvg
              have HBF := Lib.hid (show (decide (V = 0) || (acc ++ [cu q]).any (ovD V)) = false by rw [HBN.out, decide_eq_false hvg]; rfl)
              rcases Bool.eq_false_or_eq_true (bDi p) with hd1 | hd1
              · rw [hd1] at H3
                clear hd1 hor
                go_wp2_with (first | (go_at_call 98; (with_reducible refine (H1.out).mono ?_); rintro e w' ⟨rfl, rfl⟩) | (go_at_call 60; (with_reducible refine (H2.out).mono ?_); rintro e w' ⟨rfl, rfl⟩) | (go_at_call 59; (with_reducible refine (H3.out _).mono ?_); rintro e w' ⟨rfl, rfl⟩) | (go_at_call 62; (with_reducible refine (H4.out).mono ?_); rintro e w' ⟨rfl, rfl⟩) | (go_at_call 69; (with_reducible refine (H5.out _).mono ?_); rintro e w' ⟨rfl, rfl⟩) | (go_at_call 99; (with_reducible refine (H6.out _).mono ?_); rintro e w' ⟨rfl, rfl⟩))
                go_roundw
                case rel => exact ⟨acc ++ [cu q], k + 1, by omega, by simp; omega, hlt2, HN.out, by rw [HYN.out], by go_num, by rw [HBF.out], HB.out.alloc hwz2 _⟩
                case measure => simp [intOf]; omega
              · have hd2 : ltB r p = true := by rw [hd1, Bool.false_or] at hor; exact hor
                rw [hd1] at H3
                rw [hd2] at H4
                clear hd1 hd2 hor
                go_wp2_with (first | (go_at_call 98; (with_reducible refine (H1.out).mono ?_); rintro e w' ⟨rfl, rfl⟩) | (go_at_call 60; (with_reducible refine (H2.out).mono ?_); rintro e w' ⟨rfl, rfl⟩) | (go_at_call 59; (with_reducible refine (H3.out _).mono ?_); rintro e w' ⟨rfl, rfl⟩) | (go_at_call 62; (with_reducible refine (H4.out).mono ?_); rintro e w' ⟨rfl, rfl⟩) | (go_at_call 69; (with_reducible refine (H5.out _).mono ?_); rintro e w' ⟨rfl, rfl⟩) | (go_at_call 99; (with_reducible refine (H6.out _).mono ?_); rintro e w' ⟨rfl, rfl⟩))
                go_roundw
                case rel => exact ⟨acc ++ [cu q], k + 1, by omega, by simp; omega, hlt2, HN.out, by rw [HYN.out], by go_num, by rw [HBF.out], HB.out.alloc hwz2 _⟩
                case measure => simp [intOf]; omega
          · have HBF := Lib.hid (show (decide (V = 0) || (acc ++ [cu q]).any (ovD V)) = true by rw [HBN.out]; rfl)
            rcases Bool.eq_false_or_eq_true (bDi p) with hd1 | hd1
            · rw [hd1] at H3
              clear hd1 hor
              go_wp2_with (first | (go_at_call 98; (with_reducible refine (H1.out).mono ?_); rintro e w' ⟨rfl, rfl⟩) | (go_at_call 60; (with_reducible refine (H2.out).mono ?_); rintro e w' ⟨rfl, rfl⟩) | (go_at_call 59; (with_reducible refine (H3.out _).mono ?_); rintro e w' ⟨rfl, rfl⟩) | (go_at_call 62; (with_reducible refine (H4.out).mono ?_); rintro e w' ⟨rfl, rfl⟩) | (go_at_call 69; (with_reducible refine (H5.out _).mono ?_); rintro e w' ⟨rfl, rfl⟩) | (go_at_call 99; (with_reducible refine (H6.out _).mono ?_); rintro e w' ⟨rfl, rfl⟩))
              go_roundw
              case rel => exact ⟨acc ++ [cu q], k + 1, by omega, by simp; omega, hlt2, HN.out, by rw [HYN.out], by go_num, by rw [HBF.out], HB.out.alloc hwz2 _⟩
              case measure => simp [intOf]; omega
            · have hd2 : ltB r p = true := by rw [hd1, Bool.false_or] at hor; exact hor
              rw [hd1] at H3
              rw [hd2] at H4
              clear hd1 hd2 hor
              go_wp2_with (first | (go_at_call 98; (with_reducible refine (H1.out).mono ?_); rintro e w' ⟨rfl, rfl⟩) | (go_at_call 60; (with_reducible refine (H2.out).mono ?_); rintro e w' ⟨rfl, rfl⟩) | (go_at_call 59; (with_reducible refine (H3.out _).mono ?_); rintro e w' ⟨rfl, rfl⟩) | (go_at_call 62; (with_reducible refine (H4.out).mono ?_); rintro e w' ⟨rfl, rfl⟩) | (go_at_call 69; (with_reducible refine (H5.out _).mono ?_); rintro e w' ⟨rfl, rfl⟩) | (go_at_call 99; (with_reducible refine (H6.out _).mono ?_); rintro e w' ⟨rfl, rfl⟩))
              go_roundw
              case rel => exact ⟨acc ++ [cu q], k + 1, by omega, by simp; omega, hlt2, HN.out, by rw [HYN.out], by go_num, by rw [HBF.out], HB.out.alloc hwz2 _⟩
              case measure => simp [intOf]; omega
theorem dg_4 : (∀ j, j < (⟨#[52]⟩ : ByteArray).size → 48 ≤ pk ⟨#[52]⟩ j ∧ pk ⟨#[52]⟩ j ≤ 57) ∧ dvx ⟨#[52]⟩ (⟨#[52]⟩ : ByteArray).size = 4 ∧ (⟨#[52]⟩ : ByteArray).size ≤ 2 := by
  refine ⟨?_, by decide, by decide⟩
  intro j h
  match j, h with
  | 0, _ => decide
  | 1, h => exact absurd (show 1 < 1 from h) (by omega)
  | j + 2, h => exact absurd (show j + 2 < 1 from h) (by omega)
set_option maxRecDepth 100000 in
set_option maxHeartbeats 8000000 in
theorem rbits_r4 (B S a i : Nat) (t x : ByteArray) (ql : List UInt8) (hxq : x = ⟨ql.toArray⟩) (r b : Int) (v : Value) (l : List Sy) (w : World) (hS : Rc w S t (a : Int) r v 0 b) (hL : Sl w B v l) (hB : B ≤ S) (hl : t.size ≤ 100000) (hll : l.length ≤ 1000000) (hi : i ≤ t.size) (hsk : sk t i = i) (hql : ql.length ≤ 100000) (V : Int) (hV : rdV ql = V) (hqe : ql = [52]) :
    Calls Tryz.prog 100 #[.pointer (some ⟨S, 0, none⟩), .string x, .int .i64 (a : Int), .int .i64 (i : Int)] w (RPo B S t w (bkR r t a i ql l)) := by
  have hlt := hS.lt
  have HC : Hid (∀ W, Below w.heap.size w W → Rc W S t (a : Int) r v 0 b ∧ Sl W B v l) := Lib.hid (fun W hb => ⟨hS.kept hb, hS.sl hL hb⟩)
  have HI := Lib.hid hi
  have HSK := Lib.hid hsk
  have HVV := Lib.hid hV
  have HXQ := Lib.hid hxq
  have hxs : x.size ≤ 100000 := by rw [hxq]; show ql.toArray.size ≤ _; rw [List.size_toArray]; exact hql
  have HAP : Hid (x ++ ⟨#[114]⟩ = ⟨(ql ++ [114]).toArray⟩) := Lib.hid (by rw [hxq]; exact app_one ql 114)
  obtain ⟨RR, hRR⟩ : ∃ R, bkR r t a i ql l = R := ⟨_, rfl⟩
  rw [hRR]
  have HRR := Lib.hid hRR
  have k2 : (x.toList == [50]) = false := by rw [hxq, hqe, ByteArray.toList_eq]; decide
  have k4 : (x.toList == [52]) = true := by rw [hxq, hqe, ByteArray.toList_eq]; rfl
  have k8 : (x.toList == [56]) = false := by rw [hxq, hqe, ByteArray.toList_eq]; decide
  have k16 : (x.toList == [49, 54]) = false := by rw [hxq, hqe, ByteArray.toList_eq]; decide
  have hxc : x = ⟨#[52]⟩ := by rw [hxq, hqe]
  have HDG : Hid (∀ j, j < x.size → 48 ≤ pk x j ∧ pk x j ≤ 57) := Lib.hid (by rw [hxc]; exact dg_4.1)
  have HDV : Hid (dvx x x.size = V) := Lib.hid (by rw [hxc, ← hV, hqe]; exact dg_4.2.1)
  have hx2 : x.size ≤ 2 := by rw [hxc]; exact dg_4.2.2
  have HVP : Hid (V ≠ 0) := Lib.hid (by rw [← hV, hqe]; decide)
  have hVb : V ≤ 16 := by rw [← hV, hqe]; decide
  have hVb0 : 2 ≤ V := by rw [← hV, hqe]; decide
  clear hxc hqe
  clear hS hL hsk hi hRR hV hxq
  go_enter Tryz.func100, Tryz.ntmps100
  go_wp2
  go_loop [11, 12] (fun v11 v12 => ∃ k : Nat, k ≤ x.size ∧ v12 = .int .i64 k ∧ v11 = .int .i64 (dvx x k)) (fun _ v12 => x.size - (intOf v12).toNat)
  case atStart => exact ⟨0, Nat.zero_le _, rfl, rfl⟩
  case round =>
    obtain ⟨k, hk, rfl, rfl⟩ := hrel
    by_cases hkx : k < x.size
    · have hd := HDG.out k hkx
      have hpi := (pk_in hkx).symm
      have hv := dv_bd HDG.out k hk (by omega)
      have HN := Lib.hid (show dvx x (k + 1) = 10 * dvx x k + (pk x k - 48) from rfl)
      obtain ⟨p, hp⟩ : ∃ p, pk x k = p := ⟨_, rfl⟩
      obtain ⟨u, hu⟩ : ∃ u, dvx x k = u := ⟨_, rfl⟩
      rw [hp] at hd hpi HN
      rw [hu] at hv HN
      rw [hu]
      clear hp hu
      go_wp2
      go_round
      case rel => exact ⟨k + 1, hkx, by go_num, by rw [HN.out]⟩
      case measure => simp [intOf]; omega
    · have hke : k = x.size := by omega
      subst hke
      rw [HDV.out]
      go_wp2
      go_loopw [8, 9, 10] (fun v8 v9 v10 wr => ∃ (acc : List UInt8) (e : Nat), i ≤ e ∧ acc.length ≤ e ∧ e ≤ t.size ∧ (acc ++ (rn bHx bHx0 r t (sk t e) e).1, (rn bHx bHx0 r t (sk t e) e).2) = rn bHx bHx0 r t i i ∧ v8 = .string ⟨(ql ++ 114 :: acc).toArray⟩ ∧ v9 = .int .i64 e ∧ v10 = .bool (decide (V = 0) || acc.any (ovD V)) ∧ Below w.heap.size w wr) (fun _ v9 _ _ => t.size - (intOf v9).toNat)
      case atStart => exact ⟨[], i, Nat.le_refl _, Nat.zero_le _, HI.out, by rw [HSK.out]; rfl, by rw [HAP.out], rfl, by rw [decide_eq_false HVP.out]; rfl, Below.refl _ w⟩
      case round =>
        obtain ⟨acc, e, hie, hal, he, hrn, rfl, rfl, rfl, hb⟩ := hrel
        have hks := sk_ge t e
        have hkl := sk_le he
        have hRc := (HC.out wr hb).1
        have c0 := hRc.c0
        have H1 := Lib.hid (behind_any t S e wr c0 hl (by omega))
        have H2 := Lib.hid (at_any t S (sk t e) wr c0 hl (by omega))
        have HR := Lib.hid hrn
        obtain ⟨k, hk⟩ : ∃ k, sk t e = k := ⟨_, rfl⟩
        have HK := Lib.hid hk
        rw [hk] at H1 H2 hks hkl
        have hp := pk_bd t k
        obtain ⟨p, hpe⟩ : ∃ p, pk t k = p := ⟨_, rfl⟩
        have HP := Lib.hid hpe
        rw [hpe] at hp H2
        have hlo := lo_bd hp.1 hp.2
        have H3 := Lib.hid (fun w => rb_di p w hp.1 hp.2)
        have H4 := Lib.hid (letter_any S r p wr hRc.c2 hp.1 hp.2)
        have H5 := Lib.hid (fun w => rb_lo p w hp.1 hp.2)
        have H6 := Lib.hid (fun w => rb_hx (loA p) w hlo.1 hlo.2)
        have hhb := hx_bd (loA p)
        have HX := Lib.hid (hx_ch r p)
        have hal2 : acc.length ≤ 100000 := by omega
        have hwz := hb.size
        have HB := Lib.hid hb
        have HCV := fun W => conv_one (loA p) hlo.1 hlo.2 W
        obtain ⟨q, hq⟩ : ∃ q, loA p = q := ⟨_, rfl⟩
        have HQ := Lib.hid hq
        rw [hq] at H5 H6 hhb HX HCV hlo
        obtain ⟨g, hg⟩ : ∃ g, hxA q = g := ⟨_, rfl⟩
        have HG := Lib.hid hg
        rw [hg] at H6 hhb HX
        obtain ⟨y, hy⟩ : ∃ y, (⟨(ql ++ 114 :: acc).toArray⟩ : ByteArray) = y := ⟨_, rfl⟩
        have hys : y.size ≤ 300000 := by rw [← hy]; show (ql ++ 114 :: acc).toArray.size ≤ _; rw [List.size_toArray, List.length_append, List.length_cons]; omega
        have HY := Lib.hid hy
        rw [hy]
        obtain ⟨bd, hbd⟩ : ∃ bd, (decide (V = 0) || acc.any (ovD V)) = bd := ⟨_, rfl⟩
        have HBD := Lib.hid hbd
        rw [hbd]
        clear hrn hk hpe hRc hb hq hg hy hbd
        cases hx : bHx (chB r p)
        · have hsd : bHx (ch r t (sk t e)) = false := by show bHx (chB r (pk t (sk t e))) = false; rw [HK.out, HP.out]; exact hx
          have hN : rn bHx bHx0 r t i i = (acc, e) := by rw [← HR.out, rn_no hsd, List.append_nil]
          have HNN := Lib.hid hN
          have hSr := (HC.out wr HB.out).1
          have hLr := (HC.out wr HB.out).2
          have hRk : RR = if 100 < lc y 0 then ⟨r, a, l, a, 3⟩ else if bd = true then ⟨r, a, l, a, 11⟩ else ⟨r, e, l ++ [(5, y, (a : Int))], 0, 0⟩ := by
            rw [← HRR.out]
            unfold bkR
            rw [hN, HVV.out]
            simp only
            rw [HY.out, HBD.out]
          have HRK := Lib.hid hRk
          have HSZ := Lib.hid (fun W => rsize_any y W (by omega))
          have hys2 := hys
          have HSR := Lib.hid hSr
          have HLR := Lib.hid hLr
          have hgx := HX.out
          rw [hx] at hgx
          obtain ⟨n, hn⟩ : ∃ n, lc y 0 = n := ⟨_, rfl⟩
          rw [hn] at HSZ HRK
          clear hsd hN hSr hLr hRk hx hn
          have hstop : g < 0 ∨ (0 ≤ g ∧ bDi p = false ∧ ltB r p = false) := by
            by_cases h0 : g < 0
            · exact Or.inl h0
            · rw [decide_eq_true (by omega), Bool.true_and, Bool.or_eq_false_iff] at hgx
              exact Or.inr ⟨by omega, hgx.1, hgx.2⟩
          clear hgx
          rcases hstop with h0 | ⟨h0, hd1, hd2⟩
          rotate_left
          · rw [hd2] at H4
            rw [hd1] at H3
            clear hd1 hd2
            by_cases h100 : 100 < n
            · have h100b : decide ((n : Int) > 100) = true := decide_eq_true (by omega)
              cases bd
              · have hRe : RR = ⟨r, (a : Int), l, (a : Int), 3⟩ := by rw [HRK.out]; exact if_pos h100
                subst hRe
                have HFA := Lib.hid (fail_new S t (a : Int) r v b 3 (a : Int) wr HSR.out)
                go_wp2_with (first | (go_at_call 98; (with_reducible refine (H1.out).mono ?_); rintro e w' ⟨rfl, rfl⟩) | (go_at_call 60; (with_reducible refine (H2.out).mono ?_); rintro e w' ⟨rfl, rfl⟩) | (go_at_call 59; (with_reducible refine (H3.out _).mono ?_); rintro e w' ⟨rfl, rfl⟩) | (go_at_call 62; (with_reducible refine (H4.out).mono ?_); rintro e w' ⟨rfl, rfl⟩) | (go_at_call 69; (with_reducible refine (H5.out _).mono ?_); rintro e w' ⟨rfl, rfl⟩) | (go_at_call 99; (with_reducible refine (H6.out _).mono ?_); rintro e w' ⟨rfl, rfl⟩) | (go_at_call 102; (with_reducible refine (HSZ.out _).mono ?_); rintro e w' ⟨rfl, rfl⟩) | (go_at_call 54; (with_reducible refine HFA.out.mono ?_); (rintro e w5 ⟨rfl, hS5, hg5⟩); (have HADD := Lib.hid (radd_any B S t (a : Int) r v 3 (a : Int) 5 (a : Int) (e : Int) y l w5 hS5 (HSR.out.slgb HLR.out hg5) hB hll)); (have HFO := Lib.hid (fail_old S t (a : Int) r v 3 (a : Int) 11 (a : Int) w5 hS5 (by decide)))) | (go_at_call 58; (with_reducible refine HADD.out.mono ?_); (rintro e w6 ⟨rfl, ⟨v6, hS6, hL6⟩, hb6, _⟩)))
                go_returns
                exact ⟨rfl, ⟨_, _, _, _, v6, _, hS6, hL6, (fun h => absurd h (show ¬ ((3 : Int) = 0) by decide)), (fun _ => ⟨rfl, rfl⟩)⟩, ((HB.out.mono (by omega)).trans (hg5.below hB (by omega))).trans hb6⟩
              · have hRe : RR = ⟨r, (a : Int), l, (a : Int), 3⟩ := by rw [HRK.out]; exact if_pos h100
                subst hRe
                have HFA := Lib.hid (fail_new S t (a : Int) r v b 3 (a : Int) wr HSR.out)
                go_wp2_with (first | (go_at_call 98; (with_reducible refine (H1.out).mono ?_); rintro e w' ⟨rfl, rfl⟩) | (go_at_call 60; (with_reducible refine (H2.out).mono ?_); rintro e w' ⟨rfl, rfl⟩) | (go_at_call 59; (with_reducible refine (H3.out _).mono ?_); rintro e w' ⟨rfl, rfl⟩) | (go_at_call 62; (with_reducible refine (H4.out).mono ?_); rintro e w' ⟨rfl, rfl⟩) | (go_at_call 69; (with_reducible refine (H5.out _).mono ?_); rintro e w' ⟨rfl, rfl⟩) | (go_at_call 99; (with_reducible refine (H6.out _).mono ?_); rintro e w' ⟨rfl, rfl⟩) | (go_at_call 102; (with_reducible refine (HSZ.out _).mono ?_); rintro e w' ⟨rfl, rfl⟩) | (go_at_call 54; (with_reducible refine (HFO.out).mono ?_); rintro e w' ⟨rfl, rfl⟩) | (go_at_call 54; (with_reducible refine HFA.out.mono ?_); (rintro e w5 ⟨rfl, hS5, hg5⟩); (have HADD := Lib.hid (radd_any B S t (a : Int) r v 3 (a : Int) 5 (a : Int) (e : Int) y l w5 hS5 (HSR.out.slgb HLR.out hg5) hB hll)); (have HFO := Lib.hid (fail_old S t (a : Int) r v 3 (a : Int) 11 (a : Int) w5 hS5 (by decide)))) | (go_at_call 58; (with_reducible refine HADD.out.mono ?_); (rintro e w6 ⟨rfl, ⟨v6, hS6, hL6⟩, hb6, _⟩)))
                go_returns
                exact ⟨rfl, ⟨_, _, _, _, v6, _, hS6, hL6, (fun h => absurd h (show ¬ ((3 : Int) = 0) by decide)), (fun _ => ⟨rfl, rfl⟩)⟩, ((HB.out.mono (by omega)).trans (hg5.below hB (by omega))).trans hb6⟩
            · have h100b : decide ((n : Int) > 100) = false := decide_eq_false (by omega)
              cases bd
              · have hRe : RR = ⟨r, (e : Int), l ++ [(5, y, (a : Int))], 0, 0⟩ := by rw [HRK.out, if_neg h100]; exact if_neg (by decide)
                subst hRe
                have HADD := Lib.hid (radd_any B S t (a : Int) r v 0 b 5 (a : Int) (e : Int) y l wr HSR.out HLR.out hB hll)
                go_wp2_with (first | (go_at_call 98; (with_reducible refine (H1.out).mono ?_); rintro e w' ⟨rfl, rfl⟩) | (go_at_call 60; (with_reducible refine (H2.out).mono ?_); rintro e w' ⟨rfl, rfl⟩) | (go_at_call 59; (with_reducible refine (H3.out _).mono ?_); rintro e w' ⟨rfl, rfl⟩) | (go_at_call 62; (with_reducible refine (H4.out).mono ?_); rintro e w' ⟨rfl, rfl⟩) | (go_at_call 69; (with_reducible refine (H5.out _).mono ?_); rintro e w' ⟨rfl, rfl⟩) | (go_at_call 99; (with_reducible refine (H6.out _).mono ?_); rintro e w' ⟨rfl, rfl⟩) | (go_at_call 102; (with_reducible refine (HSZ.out _).mono ?_); rintro e w' ⟨rfl, rfl⟩) | (go_at_call 58; (with_reducible refine HADD.out.mono ?_); (rintro e w6 ⟨rfl, ⟨v6, hS6, hL6⟩, hb6, _⟩)))
                go_returns
                exact ⟨rfl, ⟨_, _, _, _, v6, _, hS6, hL6, (fun _ => ⟨rfl, rfl, rfl, rfl⟩), (fun h => absurd rfl h)⟩, (HB.out.mono (by omega)).trans hb6⟩
              · have hRe : RR = ⟨r, (a : Int), l, (a : Int), 11⟩ := by rw [HRK.out]; exact by rw [if_neg h100]; exact if_pos rfl
                subst hRe
                have HFA := Lib.hid (fail_new S t (a : Int) r v b 11 (a : Int) wr HSR.out)
                go_wp2_with (first | (go_at_call 98; (with_reducible refine (H1.out).mono ?_); rintro e w' ⟨rfl, rfl⟩) | (go_at_call 60; (with_reducible refine (H2.out).mono ?_); rintro e w' ⟨rfl, rfl⟩) | (go_at_call 59; (with_reducible refine (H3.out _).mono ?_); rintro e w' ⟨rfl, rfl⟩) | (go_at_call 62; (with_reducible refine (H4.out).mono ?_); rintro e w' ⟨rfl, rfl⟩) | (go_at_call 69; (with_reducible refine (H5.out _).mono ?_); rintro e w' ⟨rfl, rfl⟩) | (go_at_call 99; (with_reducible refine (H6.out _).mono ?_); rintro e w' ⟨rfl, rfl⟩) | (go_at_call 102; (with_reducible refine (HSZ.out _).mono ?_); rintro e w' ⟨rfl, rfl⟩) | (go_at_call 54; (with_reducible refine HFA.out.mono ?_); (rintro e w5 ⟨rfl, hS5, hg5⟩); (have HADD := Lib.hid (radd_any B S t (a : Int) r v 11 (a : Int) 5 (a : Int) (e : Int) y l w5 hS5 (HSR.out.slgb HLR.out hg5) hB hll)); (have HFO := Lib.hid (fail_old S t (a : Int) r v 11 (a : Int) 11 (a : Int) w5 hS5 (by decide)))) | (go_at_call 58; (with_reducible refine HADD.out.mono ?_); (rintro e w6 ⟨rfl, ⟨v6, hS6, hL6⟩, hb6, _⟩)))
                go_returns
                exact ⟨rfl, ⟨_, _, _, _, v6, _, hS6, hL6, (fun h => absurd h (show ¬ ((11 : Int) = 0) by decide)), (fun _ => ⟨rfl, rfl⟩)⟩, ((HB.out.mono (by omega)).trans (hg5.below hB (by omega))).trans hb6⟩
          · by_cases h100 : 100 < n
            · have h100b : decide ((n : Int) > 100) = true := decide_eq_true (by omega)
              cases bd
              · have hRe : RR = ⟨r, (a : Int), l, (a : Int), 3⟩ := by rw [HRK.out]; exact if_pos h100
                subst hRe
                have HFA := Lib.hid (fail_new S t (a : Int) r v b 3 (a : Int) wr HSR.out)
                go_wp2_with (first | (go_at_call 98; (with_reducible refine (H1.out).mono ?_); rintro e w' ⟨rfl, rfl⟩) | (go_at_call 60; (with_reducible refine (H2.out).mono ?_); rintro e w' ⟨rfl, rfl⟩) | (go_at_call 59; (with_reducible refine (H3.out _).mono ?_); rintro e w' ⟨rfl, rfl⟩) | (go_at_call 62; (with_reducible refine (H4.out).mono ?_); rintro e w' ⟨rfl, rfl⟩) | (go_at_call 69; (with_reducible refine (H5.out _).mono ?_); rintro e w' ⟨rfl, rfl⟩) | (go_at_call 99; (with_reducible refine (H6.out _).mono ?_); rintro e w' ⟨rfl, rfl⟩) | (go_at_call 102; (with_reducible refine (HSZ.out _).mono ?_); rintro e w' ⟨rfl, rfl⟩) | (go_at_call 54; (with_reducible refine HFA.out.mono ?_); (rintro e w5 ⟨rfl, hS5, hg5⟩); (have HADD := Lib.hid (radd_any B S t (a : Int) r v 3 (a : Int) 5 (a : Int) (e : Int) y l w5 hS5 (HSR.out.slgb HLR.out hg5) hB hll)); (have HFO := Lib.hid (fail_old S t (a : Int) r v 3 (a : Int) 11 (a : Int) w5 hS5 (by decide)))) | (go_at_call 58; (with_reducible refine HADD.out.mono ?_); (rintro e w6 ⟨rfl, ⟨v6, hS6, hL6⟩, hb6, _⟩)))
                go_returns
                exact ⟨rfl, ⟨_, _, _, _, v6, _, hS6, hL6, (fun h => absurd h (show ¬ ((3 : Int) = 0) by decide)), (fun _ => ⟨rfl, rfl⟩)⟩, ((HB.out.mono (by omega)).trans (hg5.below hB (by omega))).trans hb6⟩
              · have hRe : RR = ⟨r, (a : Int), l, (a : Int), 3⟩ := by rw [HRK.out]; exact if_pos h100
                subst hRe
                have HFA := Lib.hid (fail_new S t (a : Int) r v b 3 (a : Int) wr HSR.out)
                go_wp2_with (first | (go_at_call 98; (with_reducible refine (H1.out).mono ?_); rintro e w' ⟨rfl, rfl⟩) | (go_at_call 60; (with_reducible refine (H2.out).mono ?_); rintro e w' ⟨rfl, rfl⟩) | (go_at_call 59; (with_reducible refine (H3.out _).mono ?_); rintro e w' ⟨rfl, rfl⟩) | (go_at_call 62; (with_reducible refine (H4.out).mono ?_); rintro e w' ⟨rfl, rfl⟩) | (go_at_call 69; (with_reducible refine (H5.out _).mono ?_); rintro e w' ⟨rfl, rfl⟩) | (go_at_call 99; (with_reducible refine (H6.out _).mono ?_); rintro e w' ⟨rfl, rfl⟩) | (go_at_call 102; (with_reducible refine (HSZ.out _).mono ?_); rintro e w' ⟨rfl, rfl⟩) | (go_at_call 54; (with_reducible refine (HFO.out).mono ?_); rintro e w' ⟨rfl, rfl⟩) | (go_at_call 54; (with_reducible refine HFA.out.mono ?_); (rintro e w5 ⟨rfl, hS5, hg5⟩); (have HADD := Lib.hid (radd_any B S t (a : Int) r v 3 (a : Int) 5 (a : Int) (e : Int) y l w5 hS5 (HSR.out.slgb HLR.out hg5) hB hll)); (have HFO := Lib.hid (fail_old S t (a : Int) r v 3 (a : Int) 11 (a : Int) w5 hS5 (by decide)))) | (go_at_call 58; (with_reducible refine HADD.out.mono ?_); (rintro e w6 ⟨rfl, ⟨v6, hS6, hL6⟩, hb6, _⟩)))
                go_returns
                exact ⟨rfl, ⟨_, _, _, _, v6, _, hS6, hL6, (fun h => absurd h (show ¬ ((3 : Int) = 0) by decide)), (fun _ => ⟨rfl, rfl⟩)⟩, ((HB.out.mono (by omega)).trans (hg5.below hB (by omega))).trans hb6⟩
            · have h100b : decide ((n : Int) > 100) = false := decide_eq_false (by omega)
              cases bd
              · have hRe : RR = ⟨r, (e : Int), l ++ [(5, y, (a : Int))], 0, 0⟩ := by rw [HRK.out, if_neg h100]; exact if_neg (by decide)
                subst hRe
                have HADD := Lib.hid (radd_any B S t (a : Int) r v 0 b 5 (a : Int) (e : Int) y l wr HSR.out HLR.out hB hll)
                go_wp2_with (first | (go_at_call 98; (with_reducible refine (H1.out).mono ?_); rintro e w' ⟨rfl, rfl⟩) | (go_at_call 60; (with_reducible refine (H2.out).mono ?_); rintro e w' ⟨rfl, rfl⟩) | (go_at_call 59; (with_reducible refine (H3.out _).mono ?_); rintro e w' ⟨rfl, rfl⟩) | (go_at_call 62; (with_reducible refine (H4.out).mono ?_); rintro e w' ⟨rfl, rfl⟩) | (go_at_call 69; (with_reducible refine (H5.out _).mono ?_); rintro e w' ⟨rfl, rfl⟩) | (go_at_call 99; (with_reducible refine (H6.out _).mono ?_); rintro e w' ⟨rfl, rfl⟩) | (go_at_call 102; (with_reducible refine (HSZ.out _).mono ?_); rintro e w' ⟨rfl, rfl⟩) | (go_at_call 58; (with_reducible refine HADD.out.mono ?_); (rintro e w6 ⟨rfl, ⟨v6, hS6, hL6⟩, hb6, _⟩)))
                go_returns
                exact ⟨rfl, ⟨_, _, _, _, v6, _, hS6, hL6, (fun _ => ⟨rfl, rfl, rfl, rfl⟩), (fun h => absurd rfl h)⟩, (HB.out.mono (by omega)).trans hb6⟩
              · have hRe : RR = ⟨r, (a : Int), l, (a : Int), 11⟩ := by rw [HRK.out]; exact by rw [if_neg h100]; exact if_pos rfl
                subst hRe
                have HFA := Lib.hid (fail_new S t (a : Int) r v b 11 (a : Int) wr HSR.out)
                go_wp2_with (first | (go_at_call 98; (with_reducible refine (H1.out).mono ?_); rintro e w' ⟨rfl, rfl⟩) | (go_at_call 60; (with_reducible refine (H2.out).mono ?_); rintro e w' ⟨rfl, rfl⟩) | (go_at_call 59; (with_reducible refine (H3.out _).mono ?_); rintro e w' ⟨rfl, rfl⟩) | (go_at_call 62; (with_reducible refine (H4.out).mono ?_); rintro e w' ⟨rfl, rfl⟩) | (go_at_call 69; (with_reducible refine (H5.out _).mono ?_); rintro e w' ⟨rfl, rfl⟩) | (go_at_call 99; (with_reducible refine (H6.out _).mono ?_); rintro e w' ⟨rfl, rfl⟩) | (go_at_call 102; (with_reducible refine (HSZ.out _).mono ?_); rintro e w' ⟨rfl, rfl⟩) | (go_at_call 54; (with_reducible refine HFA.out.mono ?_); (rintro e w5 ⟨rfl, hS5, hg5⟩); (have HADD := Lib.hid (radd_any B S t (a : Int) r v 11 (a : Int) 5 (a : Int) (e : Int) y l w5 hS5 (HSR.out.slgb HLR.out hg5) hB hll)); (have HFO := Lib.hid (fail_old S t (a : Int) r v 11 (a : Int) 11 (a : Int) w5 hS5 (by decide)))) | (go_at_call 58; (with_reducible refine HADD.out.mono ?_); (rintro e w6 ⟨rfl, ⟨v6, hS6, hL6⟩, hb6, _⟩)))
                go_returns
                exact ⟨rfl, ⟨_, _, _, _, v6, _, hS6, hL6, (fun h => absurd h (show ¬ ((11 : Int) = 0) by decide)), (fun _ => ⟨rfl, rfl⟩)⟩, ((HB.out.mono (by omega)).trans (hg5.below hB (by omega))).trans hb6⟩
        · have hlt2 : k < t.size := ch_lt bHx0 (show bHx (ch r t k) = true by show bHx (chB r (pk t k)) = true; rw [HP.out]; exact hx)
          have hpi := (pk_in hlt2).symm
          rw [HP.out] at hpi
          have hgx := HX.out
          rw [hx, Bool.and_eq_true] at hgx
          have hg0 : 0 ≤ g := of_decide_eq_true hgx.1
          have hqc : q = ch r t k := by
            have : loA p = chB r p := by
              cases hlp : ltB r p
              · have h2 := hgx.2
                rw [hlp, Bool.or_false] at h2
                exact lo_chs (r := r) (by rw [h2, Bool.or_true])
              · exact (lo_ch hlp).symm
            rw [← HQ.out, this, ← HP.out]; rfl
          have HN := Lib.hid (show ((acc ++ [cu q]) ++ (rn bHx bHx0 r t (sk t (k + 1)) (k + 1)).1, (rn bHx bHx0 r t (sk t (k + 1)) (k + 1)).2) = rn bHx bHx0 r t i i by
            rw [← HR.out, HK.out, rn_yes (f := bHx) (hf := bHx0) (r := r) (t := t) (i := k) (e := e) (by show bHx (chB r (pk t k)) = true; rw [HP.out]; exact hx), ← hqc, List.append_assoc]; rfl)
          have HOV := Lib.hid (show ovD V (cu q) = decide (V ≤ g) by
            unfold ovD
            rw [cu_nat hlo.1 hlo.2, Int.toNat_of_nonneg hlo.1, HG.out])
          have HBN := Lib.hid (show (decide (V = 0) || (acc ++ [cu q]).any (ovD V)) = (bd || decide (V ≤ g)) by
            rw [List.any_append, List.any_cons, List.any_nil, Bool.or_false, ← Bool.or_assoc, HBD.out, HOV.out])
          have HYN := Lib.hid (show (⟨(ql ++ 114 :: (acc ++ [cu q])).toArray⟩ : ByteArray) = y ++ ⟨#[cu q]⟩ by
            rw [← HY.out, app_one, List.append_assoc]; rfl)
          have hor := hgx.2
          have hwz2 : w.heap.size ≤ wr.heap.size := hwz
          clear hgx hqc hx
          cases bd
          · by_cases hvg : V ≤ g
            · have hgv : decide (g ≥ V) = true := decide_eq_true hvg
              have HBF := Lib.hid (show (decide (V = 0) || (acc ++ [cu q]).any (ovD V)) = true by rw [HBN.out, decide_eq_true hvg]; rfl)
              rcases Bool.eq_false_or_eq_true (bDi p) with hd1 | hd1
              · rw [hd1] at H3
                clear hd1 hor
                go_wp2_with (first | (go_at_call 98; (with_reducible refine (H1.out).mono ?_); rintro e w' ⟨rfl, rfl⟩) | (go_at_call 60; (with_reducible refine (H2.out).mono ?_); rintro e w' ⟨rfl, rfl⟩) | (go_at_call 59; (with_reducible refine (H3.out _).mono ?_); rintro e w' ⟨rfl, rfl⟩) | (go_at_call 62; (with_reducible refine (H4.out).mono ?_); rintro e w' ⟨rfl, rfl⟩) | (go_at_call 69; (with_reducible refine (H5.out _).mono ?_); rintro e w' ⟨rfl, rfl⟩) | (go_at_call 99; (with_reducible refine (H6.out _).mono ?_); rintro e w' ⟨rfl, rfl⟩))
                go_roundw
                case rel => exact ⟨acc ++ [cu q], k + 1, by omega, by simp; omega, hlt2, HN.out, by rw [HYN.out], by go_num, by rw [HBF.out], HB.out.alloc hwz2 _⟩
                case measure => simp [intOf]; omega
              · have hd2 : ltB r p = true := by rw [hd1, Bool.false_or] at hor; exact hor
                rw [hd1] at H3
                rw [hd2] at H4
                clear hd1 hd2 hor
                go_wp2_with (first | (go_at_call 98; (with_reducible refine (H1.out).mono ?_); rintro e w' ⟨rfl, rfl⟩) | (go_at_call 60; (with_reducible refine (H2.out).mono ?_); rintro e w' ⟨rfl, rfl⟩) | (go_at_call 59; (with_reducible refine (H3.out _).mono ?_); rintro e w' ⟨rfl, rfl⟩) | (go_at_call 62; (with_reducible refine (H4.out).mono ?_); rintro e w' ⟨rfl, rfl⟩) | (go_at_call 69; (with_reducible refine (H5.out _).mono ?_); rintro e w' ⟨rfl, rfl⟩) | (go_at_call 99; (with_reducible refine (H6.out _).mono ?_); rintro e w' ⟨rfl, rfl⟩))
                go_roundw
                case rel => exact ⟨acc ++ [cu q], k + 1, by omega, by simp; omega, hlt2, HN.out, by rw [HYN.out], by go_num, by rw [HBF.out], HB.out.alloc hwz2 _⟩
                case measure => simp [intOf]; omega
            · have hgv : decide (g ≥ V) = false := decide_eq_false hvg
              have HBF := Lib.hid (show (decide (V = 0) || (acc ++ [cu q]).any (ovD V)) = false by rw [HBN.out, decide_eq_false hvg]; rfl)
              rcases Bool.eq_false_or_eq_true (bDi p) with hd1 | hd1
              · rw [hd1] at H3
                clear hd1 hor
                go_wp2_with (first | (go_at_call 98; (with_reducible refine (H1.out).mono ?_); rintro e w' ⟨rfl, rfl⟩) | (go_at_call 60; (with_reducible refine (H2.out).mono ?_); rintro e w' ⟨rfl, rfl⟩) | (go_at_call 59; (with_reducible refine (H3.out _).mono ?_); rintro e w' ⟨rfl, rfl⟩) | (go_at_call 62; (with_reducible refine (H4.out).mono ?_); rintro e w' ⟨rfl, rfl⟩) | (go_at_call 69; (with_reducible refine (H5.out _).mono ?_); rintro e w' ⟨rfl, rfl⟩) | (go_at_call 99; (with_reducible refine (H6.out _).mono ?_); rintro e w' ⟨rfl, rfl⟩))
                go_roundw
                case rel => exact ⟨acc ++ [cu q], k + 1, by omega, by simp; omega, hlt2, HN.out, by rw [HYN.out], by go_num, by rw [HBF.out], HB.out.alloc hwz2 _⟩
                case measure => simp [intOf]; omega
              · have hd2 : ltB r p = true := by rw [hd1, Bool.false_or] at hor; exact hor
                rw [hd1] at H3
                rw [hd2] at H4
                clear hd1 hd2 hor
                go_wp2_with (first | (go_at_call 98; (with_reducible refine (H1.out).mono ?_); rintro e w' ⟨rfl, rfl⟩) | (go_at_call 60; (with_reducible refine (H2.out).mono ?_); rintro e w' ⟨rfl, rfl⟩) | (go_at_call 59; (with_reducible refine (H3.out _).mono ?_); rintro e w' ⟨rfl, rfl⟩) | (go_at_call 62; (with_reducible refine (H4.out).mono ?_); rintro e w' ⟨rfl, rfl⟩) | (go_at_call 69; (with_reducible refine (H5.out _).mono ?_); rintro e w' ⟨rfl, rfl⟩) | (go_at_call 99; (with_reducible refine (H6.out _).mono ?_); rintro e w' ⟨rfl, rfl⟩))
                go_roundw
                case rel => exact ⟨acc ++ [cu q], k + 1, by omega, by simp; omega, hlt2, HN.out, by rw [HYN.out], by go_num, by rw [HBF.out], HB.out.alloc hwz2 _⟩
                case measure => simp [intOf]; omega
          · have HBF := Lib.hid (show (decide (V = 0) || (acc ++ [cu q]).any (ovD V)) = true by rw [HBN.out]; rfl)
            rcases Bool.eq_false_or_eq_true (bDi p) with hd1 | hd1
            · rw [hd1] at H3
              clear hd1 hor
              go_wp2_with (first | (go_at_call 98; (with_reducible refine (H1.out).mono ?_); rintro e w' ⟨rfl, rfl⟩) | (go_at_call 60; (with_reducible refine (H2.out).mono ?_); rintro e w' ⟨rfl, rfl⟩) | (go_at_call 59; (with_reducible refine (H3.out _).mono ?_); rintro e w' ⟨rfl, rfl⟩) | (go_at_call 62; (with_reducible refine (H4.out).mono ?_); rintro e w' ⟨rfl, rfl⟩) | (go_at_call 69; (with_reducible refine (H5.out _).mono ?_); rintro e w' ⟨rfl, rfl⟩) | (go_at_call 99; (with_reducible refine (H6.out _).mono ?_); rintro e w' ⟨rfl, rfl⟩))
              go_roundw
              case rel => exact ⟨acc ++ [cu q], k + 1, by omega, by simp; omega, hlt2, HN.out, by rw [HYN.out], by go_num, by rw [HBF.out], HB.out.alloc hwz2 _⟩
              case measure => simp [intOf]; omega
            · have hd2 : ltB r p = true := by rw [hd1, Bool.false_or] at hor; exact hor
              rw [hd1] at H3
              rw [hd2] at H4
              clear hd1 hd2 hor
              go_wp2_with (first | (go_at_call 98; (with_reducible refine (H1.out).mono ?_); rintro e w' ⟨rfl, rfl⟩) | (go_at_call 60; (with_reducible refine (H2.out).mono ?_); rintro e w' ⟨rfl, rfl⟩) | (go_at_call 59; (with_reducible refine (H3.out _).mono ?_); rintro e w' ⟨rfl, rfl⟩) | (go_at_call 62; (with_reducible refine (H4.out).mono ?_); rintro e w' ⟨rfl, rfl⟩) | (go_at_call 69; (with_reducible refine (H5.out _).mono ?_); rintro e w' ⟨rfl, rfl⟩) | (go_at_call 99; (with_reducible refine (H6.out _).mono ?_); rintro e w' ⟨rfl, rfl⟩))
              go_roundw
              case rel => exact ⟨acc ++ [cu q], k + 1, by omega, by simp; omega, hlt2, HN.out, by rw [HYN.out], by go_num, by rw [HBF.out], HB.out.alloc hwz2 _⟩
              case measure => simp [intOf]; omega
theorem dg_8 : (∀ j, j < (⟨#[56]⟩ : ByteArray).size → 48 ≤ pk ⟨#[56]⟩ j ∧ pk ⟨#[56]⟩ j ≤ 57) ∧ dvx ⟨#[56]⟩ (⟨#[56]⟩ : ByteArray).size = 8 ∧ (⟨#[56]⟩ : ByteArray).size ≤ 2 := by
  refine ⟨?_, by decide, by decide⟩
  intro j h
  match j, h with
  | 0, _ => decide
  | 1, h => exact absurd (show 1 < 1 from h) (by omega)
  | j + 2, h => exact absurd (show j + 2 < 1 from h) (by omega)
set_option maxRecDepth 100000 in
set_option maxHeartbeats 8000000 in
theorem rbits_r8 (B S a i : Nat) (t x : ByteArray) (ql : List UInt8) (hxq : x = ⟨ql.toArray⟩) (r b : Int) (v : Value) (l : List Sy) (w : World) (hS : Rc w S t (a : Int) r v 0 b) (hL : Sl w B v l) (hB : B ≤ S) (hl : t.size ≤ 100000) (hll : l.length ≤ 1000000) (hi : i ≤ t.size) (hsk : sk t i = i) (hql : ql.length ≤ 100000) (V : Int) (hV : rdV ql = V) (hqe : ql = [56]) :
    Calls Tryz.prog 100 #[.pointer (some ⟨S, 0, none⟩), .string x, .int .i64 (a : Int), .int .i64 (i : Int)] w (RPo B S t w (bkR r t a i ql l)) := by
  have hlt := hS.lt
  have HC : Hid (∀ W, Below w.heap.size w W → Rc W S t (a : Int) r v 0 b ∧ Sl W B v l) := Lib.hid (fun W hb => ⟨hS.kept hb, hS.sl hL hb⟩)
  have HI := Lib.hid hi
  have HSK := Lib.hid hsk
  have HVV := Lib.hid hV
  have HXQ := Lib.hid hxq
  have hxs : x.size ≤ 100000 := by rw [hxq]; show ql.toArray.size ≤ _; rw [List.size_toArray]; exact hql
  have HAP : Hid (x ++ ⟨#[114]⟩ = ⟨(ql ++ [114]).toArray⟩) := Lib.hid (by rw [hxq]; exact app_one ql 114)
  obtain ⟨RR, hRR⟩ : ∃ R, bkR r t a i ql l = R := ⟨_, rfl⟩
  rw [hRR]
  have HRR := Lib.hid hRR
  have k2 : (x.toList == [50]) = false := by rw [hxq, hqe, ByteArray.toList_eq]; decide
  have k4 : (x.toList == [52]) = false := by rw [hxq, hqe, ByteArray.toList_eq]; decide
  have k8 : (x.toList == [56]) = true := by rw [hxq, hqe, ByteArray.toList_eq]; rfl
  have k16 : (x.toList == [49, 54]) = false := by rw [hxq, hqe, ByteArray.toList_eq]; decide
  have hxc : x = ⟨#[56]⟩ := by rw [hxq, hqe]
  have HDG : Hid (∀ j, j < x.size → 48 ≤ pk x j ∧ pk x j ≤ 57) := Lib.hid (by rw [hxc]; exact dg_8.1)
  have HDV : Hid (dvx x x.size = V) := Lib.hid (by rw [hxc, ← hV, hqe]; exact dg_8.2.1)
  have hx2 : x.size ≤ 2 := by rw [hxc]; exact dg_8.2.2
  have HVP : Hid (V ≠ 0) := Lib.hid (by rw [← hV, hqe]; decide)
  have hVb : V ≤ 16 := by rw [← hV, hqe]; decide
  have hVb0 : 2 ≤ V := by rw [← hV, hqe]; decide
  clear hxc hqe
  clear hS hL hsk hi hRR hV hxq
  go_enter Tryz.func100, Tryz.ntmps100
  go_wp2
  go_loop [11, 12] (fun v11 v12 => ∃ k : Nat, k ≤ x.size ∧ v12 = .int .i64 k ∧ v11 = .int .i64 (dvx x k)) (fun _ v12 => x.size - (intOf v12).toNat)
  case atStart => exact ⟨0, Nat.zero_le _, rfl, rfl⟩
  case round =>
    obtain ⟨k, hk, rfl, rfl⟩ := hrel
    by_cases hkx : k < x.size
    · have hd := HDG.out k hkx
      have hpi := (pk_in hkx).symm
      have hv := dv_bd HDG.out k hk (by omega)
      have HN := Lib.hid (show dvx x (k + 1) = 10 * dvx x k + (pk x k - 48) from rfl)
      obtain ⟨p, hp⟩ : ∃ p, pk x k = p := ⟨_, rfl⟩
      obtain ⟨u, hu⟩ : ∃ u, dvx x k = u := ⟨_, rfl⟩
      rw [hp] at hd hpi HN
      rw [hu] at hv HN
      rw [hu]
      clear hp hu
      go_wp2
      go_round
      case rel => exact ⟨k + 1, hkx, by go_num, by rw [HN.out]⟩
      case measure => simp [intOf]; omega
    · have hke : k = x.size := by omega
      subst hke
      rw [HDV.out]
      go_wp2
      go_loopw [8, 9, 10] (fun v8 v9 v10 wr => ∃ (acc : List UInt8) (e : Nat), i ≤ e ∧ acc.length ≤ e ∧ e ≤ t.size ∧ (acc ++ (rn bHx bHx0 r t (sk t e) e).1, (rn bHx bHx0 r t (sk t e) e).2) = rn bHx bHx0 r t i i ∧ v8 = .string ⟨(ql ++ 114 :: acc).toArray⟩ ∧ v9 = .int .i64 e ∧ v10 = .bool (decide (V = 0) || acc.any (ovD V)) ∧ Below w.heap.size w wr) (fun _ v9 _ _ => t.size - (intOf v9).toNat)
      case atStart => exact ⟨[], i, Nat.le_refl _, Nat.zero_le _, HI.out, by rw [HSK.out]; rfl, by rw [HAP.out], rfl, by rw [decide_eq_false HVP.out]; rfl, Below.refl _ w⟩
      case round =>
        obtain ⟨acc, e, hie, hal, he, hrn, rfl, rfl, rfl, hb⟩ := hrel
        have hks := sk_ge t e
        have hkl := sk_le he
        have hRc := (HC.out wr hb).1
        have c0 := hRc.c0
        have H1 := Lib.hid (behind_any t S e wr c0 hl (by omega))
        have H2 := Lib.hid (at_any t S (sk t e) wr c0 hl (by omega))
        have HR := Lib.hid hrn
        obtain ⟨k, hk⟩ : ∃ k, sk t e = k := ⟨_, rfl⟩
        have HK := Lib.hid hk
        rw [hk] at H1 H2 hks hkl
        have hp := pk_bd t k
        obtain ⟨p, hpe⟩ : ∃ p, pk t k = p := ⟨_, rfl⟩
        have HP := Lib.hid hpe
        rw [hpe] at hp H2
        have hlo := lo_bd hp.1 hp.2
        have H3 := Lib.hid (fun w => rb_di p w hp.1 hp.2)
        have H4 := Lib.hid (letter_any S r p wr hRc.c2 hp.1 hp.2)
        have H5 := Lib.hid (fun w => rb_lo p w hp.1 hp.2)
        have H6 := Lib.hid (fun w => rb_hx (loA p) w hlo.1 hlo.2)
        have hhb := hx_bd (loA p)
        have HX := Lib.hid (hx_ch r p)
        have hal2 : acc.length ≤ 100000 := by omega
        have hwz := hb.size
        have HB := Lib.hid hb
        have HCV := fun W => conv_one (loA p) hlo.1 hlo.2 W
        obtain ⟨q, hq⟩ : ∃ q, loA p = q := ⟨_, rfl⟩
        have HQ := Lib.hid hq
        rw [hq] at H5 H6 hhb HX HCV hlo
        obtain ⟨g, hg⟩ : ∃ g, hxA q = g := ⟨_, rfl⟩
        have HG := Lib.hid hg
        rw [hg] at H6 hhb HX
        obtain ⟨y, hy⟩ : ∃ y, (⟨(ql ++ 114 :: acc).toArray⟩ : ByteArray) = y := ⟨_, rfl⟩
        have hys : y.size ≤ 300000 := by rw [← hy]; show (ql ++ 114 :: acc).toArray.size ≤ _; rw [List.size_toArray, List.length_append, List.length_cons]; omega
        have HY := Lib.hid hy
        rw [hy]
        obtain ⟨bd, hbd⟩ : ∃ bd, (decide (V = 0) || acc.any (ovD V)) = bd := ⟨_, rfl⟩
        have HBD := Lib.hid hbd
        rw [hbd]
        clear hrn hk hpe hRc hb hq hg hy hbd
        cases hx : bHx (chB r p)
        · have hsd : bHx (ch r t (sk t e)) = false := by show bHx (chB r (pk t (sk t e))) = false; rw [HK.out, HP.out]; exact hx
          have hN : rn bHx bHx0 r t i i = (acc, e) := by rw [← HR.out, rn_no hsd, List.append_nil]
          have HNN := Lib.hid hN
          have hSr := (HC.out wr HB.out).1
          have hLr := (HC.out wr HB.out).2
          have hRk : RR = if 100 < lc y 0 then ⟨r, a, l, a, 3⟩ else if bd = true then ⟨r, a, l, a, 11⟩ else ⟨r, e, l ++ [(5, y, (a : Int))], 0, 0⟩ := by
            rw [← HRR.out]
            unfold bkR
            rw [hN, HVV.out]
            simp only
            rw [HY.out, HBD.out]
          have HRK := Lib.hid hRk
          have HSZ := Lib.hid (fun W => rsize_any y W (by omega))
          have hys2 := hys
          have HSR := Lib.hid hSr
          have HLR := Lib.hid hLr
          have hgx := HX.out
          rw [hx] at hgx
          obtain ⟨n, hn⟩ : ∃ n, lc y 0 = n := ⟨_, rfl⟩
          rw [hn] at HSZ HRK
          clear hsd hN hSr hLr hRk hx hn
          have hstop : g < 0 ∨ (0 ≤ g ∧ bDi p = false ∧ ltB r p = false) := by
            by_cases h0 : g < 0
            · exact Or.inl h0
            · rw [decide_eq_true (by omega), Bool.true_and, Bool.or_eq_false_iff] at hgx
              exact Or.inr ⟨by omega, hgx.1, hgx.2⟩
          clear hgx
          rcases hstop with h0 | ⟨h0, hd1, hd2⟩
          rotate_left
          · rw [hd2] at H4
            rw [hd1] at H3
            clear hd1 hd2
            by_cases h100 : 100 < n
            · have h100b : decide ((n : Int) > 100) = true := decide_eq_true (by omega)
              cases bd
              · have hRe : RR = ⟨r, (a : Int), l, (a : Int), 3⟩ := by rw [HRK.out]; exact if_pos h100
                subst hRe
                have HFA := Lib.hid (fail_new S t (a : Int) r v b 3 (a : Int) wr HSR.out)
                go_wp2_with (first | (go_at_call 98; (with_reducible refine (H1.out).mono ?_); rintro e w' ⟨rfl, rfl⟩) | (go_at_call 60; (with_reducible refine (H2.out).mono ?_); rintro e w' ⟨rfl, rfl⟩) | (go_at_call 59; (with_reducible refine (H3.out _).mono ?_); rintro e w' ⟨rfl, rfl⟩) | (go_at_call 62; (with_reducible refine (H4.out).mono ?_); rintro e w' ⟨rfl, rfl⟩) | (go_at_call 69; (with_reducible refine (H5.out _).mono ?_); rintro e w' ⟨rfl, rfl⟩) | (go_at_call 99; (with_reducible refine (H6.out _).mono ?_); rintro e w' ⟨rfl, rfl⟩) | (go_at_call 102; (with_reducible refine (HSZ.out _).mono ?_); rintro e w' ⟨rfl, rfl⟩) | (go_at_call 54; (with_reducible refine HFA.out.mono ?_); (rintro e w5 ⟨rfl, hS5, hg5⟩); (have HADD := Lib.hid (radd_any B S t (a : Int) r v 3 (a : Int) 5 (a : Int) (e : Int) y l w5 hS5 (HSR.out.slgb HLR.out hg5) hB hll)); (have HFO := Lib.hid (fail_old S t (a : Int) r v 3 (a : Int) 11 (a : Int) w5 hS5 (by decide)))) | (go_at_call 58; (with_reducible refine HADD.out.mono ?_); (rintro e w6 ⟨rfl, ⟨v6, hS6, hL6⟩, hb6, _⟩)))
                go_returns
                exact ⟨rfl, ⟨_, _, _, _, v6, _, hS6, hL6, (fun h => absurd h (show ¬ ((3 : Int) = 0) by decide)), (fun _ => ⟨rfl, rfl⟩)⟩, ((HB.out.mono (by omega)).trans (hg5.below hB (by omega))).trans hb6⟩
              · have hRe : RR = ⟨r, (a : Int), l, (a : Int), 3⟩ := by rw [HRK.out]; exact if_pos h100
                subst hRe
                have HFA := Lib.hid (fail_new S t (a : Int) r v b 3 (a : Int) wr HSR.out)
                go_wp2_with (first | (go_at_call 98; (with_reducible refine (H1.out).mono ?_); rintro e w' ⟨rfl, rfl⟩) | (go_at_call 60; (with_reducible refine (H2.out).mono ?_); rintro e w' ⟨rfl, rfl⟩) | (go_at_call 59; (with_reducible refine (H3.out _).mono ?_); rintro e w' ⟨rfl, rfl⟩) | (go_at_call 62; (with_reducible refine (H4.out).mono ?_); rintro e w' ⟨rfl, rfl⟩) | (go_at_call 69; (with_reducible refine (H5.out _).mono ?_); rintro e w' ⟨rfl, rfl⟩) | (go_at_call 99; (with_reducible refine (H6.out _).mono ?_); rintro e w' ⟨rfl, rfl⟩) | (go_at_call 102; (with_reducible refine (HSZ.out _).mono ?_); rintro e w' ⟨rfl, rfl⟩) | (go_at_call 54; (with_reducible refine (HFO.out).mono ?_); rintro e w' ⟨rfl, rfl⟩) | (go_at_call 54; (with_reducible refine HFA.out.mono ?_); (rintro e w5 ⟨rfl, hS5, hg5⟩); (have HADD := Lib.hid (radd_any B S t (a : Int) r v 3 (a : Int) 5 (a : Int) (e : Int) y l w5 hS5 (HSR.out.slgb HLR.out hg5) hB hll)); (have HFO := Lib.hid (fail_old S t (a : Int) r v 3 (a : Int) 11 (a : Int) w5 hS5 (by decide)))) | (go_at_call 58; (with_reducible refine HADD.out.mono ?_); (rintro e w6 ⟨rfl, ⟨v6, hS6, hL6⟩, hb6, _⟩)))
                go_returns
                exact ⟨rfl, ⟨_, _, _, _, v6, _, hS6, hL6, (fun h => absurd h (show ¬ ((3 : Int) = 0) by decide)), (fun _ => ⟨rfl, rfl⟩)⟩, ((HB.out.mono (by omega)).trans (hg5.below hB (by omega))).trans hb6⟩
            · have h100b : decide ((n : Int) > 100) = false := decide_eq_false (by omega)
              cases bd
              · have hRe : RR = ⟨r, (e : Int), l ++ [(5, y, (a : Int))], 0, 0⟩ := by rw [HRK.out, if_neg h100]; exact if_neg (by decide)
                subst hRe
                have HADD := Lib.hid (radd_any B S t (a : Int) r v 0 b 5 (a : Int) (e : Int) y l wr HSR.out HLR.out hB hll)
                go_wp2_with (first | (go_at_call 98; (with_reducible refine (H1.out).mono ?_); rintro e w' ⟨rfl, rfl⟩) | (go_at_call 60; (with_reducible refine (H2.out).mono ?_); rintro e w' ⟨rfl, rfl⟩) | (go_at_call 59; (with_reducible refine (H3.out _).mono ?_); rintro e w' ⟨rfl, rfl⟩) | (go_at_call 62; (with_reducible refine (H4.out).mono ?_); rintro e w' ⟨rfl, rfl⟩) | (go_at_call 69; (with_reducible refine (H5.out _).mono ?_); rintro e w' ⟨rfl, rfl⟩) | (go_at_call 99; (with_reducible refine (H6.out _).mono ?_); rintro e w' ⟨rfl, rfl⟩) | (go_at_call 102; (with_reducible refine (HSZ.out _).mono ?_); rintro e w' ⟨rfl, rfl⟩) | (go_at_call 58; (with_reducible refine HADD.out.mono ?_); (rintro e w6 ⟨rfl, ⟨v6, hS6, hL6⟩, hb6, _⟩)))
                go_returns
                exact ⟨rfl, ⟨_, _, _, _, v6, _, hS6, hL6, (fun _ => ⟨rfl, rfl, rfl, rfl⟩), (fun h => absurd rfl h)⟩, (HB.out.mono (by omega)).trans hb6⟩
              · have hRe : RR = ⟨r, (a : Int), l, (a : Int), 11⟩ := by rw [HRK.out]; exact by rw [if_neg h100]; exact if_pos rfl
                subst hRe
                have HFA := Lib.hid (fail_new S t (a : Int) r v b 11 (a : Int) wr HSR.out)
                go_wp2_with (first | (go_at_call 98; (with_reducible refine (H1.out).mono ?_); rintro e w' ⟨rfl, rfl⟩) | (go_at_call 60; (with_reducible refine (H2.out).mono ?_); rintro e w' ⟨rfl, rfl⟩) | (go_at_call 59; (with_reducible refine (H3.out _).mono ?_); rintro e w' ⟨rfl, rfl⟩) | (go_at_call 62; (with_reducible refine (H4.out).mono ?_); rintro e w' ⟨rfl, rfl⟩) | (go_at_call 69; (with_reducible refine (H5.out _).mono ?_); rintro e w' ⟨rfl, rfl⟩) | (go_at_call 99; (with_reducible refine (H6.out _).mono ?_); rintro e w' ⟨rfl, rfl⟩) | (go_at_call 102; (with_reducible refine (HSZ.out _).mono ?_); rintro e w' ⟨rfl, rfl⟩) | (go_at_call 54; (with_reducible refine HFA.out.mono ?_); (rintro e w5 ⟨rfl, hS5, hg5⟩); (have HADD := Lib.hid (radd_any B S t (a : Int) r v 11 (a : Int) 5 (a : Int) (e : Int) y l w5 hS5 (HSR.out.slgb HLR.out hg5) hB hll)); (have HFO := Lib.hid (fail_old S t (a : Int) r v 11 (a : Int) 11 (a : Int) w5 hS5 (by decide)))) | (go_at_call 58; (with_reducible refine HADD.out.mono ?_); (rintro e w6 ⟨rfl, ⟨v6, hS6, hL6⟩, hb6, _⟩)))
                go_returns
                exact ⟨rfl, ⟨_, _, _, _, v6, _, hS6, hL6, (fun h => absurd h (show ¬ ((11 : Int) = 0) by decide)), (fun _ => ⟨rfl, rfl⟩)⟩, ((HB.out.mono (by omega)).trans (hg5.below hB (by omega))).trans hb6⟩
          · by_cases h100 : 100 < n
            · have h100b : decide ((n : Int) > 100) = true := decide_eq_true (by omega)
              cases bd
              · have hRe : RR = ⟨r, (a : Int), l, (a : Int), 3⟩ := by rw [HRK.out]; exact if_pos h100
                subst hRe
                have HFA := Lib.hid (fail_new S t (a : Int) r v b 3 (a : Int) wr HSR.out)
                go_wp2_with (first | (go_at_call 98; (with_reducible refine (H1.out).mono ?_); rintro e w' ⟨rfl, rfl⟩) | (go_at_call 60; (with_reducible refine (H2.out).mono ?_); rintro e w' ⟨rfl, rfl⟩) | (go_at_call 59; (with_reducible refine (H3.out _).mono ?_); rintro e w' ⟨rfl, rfl⟩) | (go_at_call 62; (with_reducible refine (H4.out).mono ?_); rintro e w' ⟨rfl, rfl⟩) | (go_at_call 69; (with_reducible refine (H5.out _).mono ?_); rintro e w' ⟨rfl, rfl⟩) | (go_at_call 99; (with_reducible refine (H6.out _).mono ?_); rintro e w' ⟨rfl, rfl⟩) | (go_at_call 102; (with_reducible refine (HSZ.out _).mono ?_); rintro e w' ⟨rfl, rfl⟩) | (go_at_call 54; (with_reducible refine HFA.out.mono ?_); (rintro e w5 ⟨rfl, hS5, hg5⟩); (have HADD := Lib.hid (radd_any B S t (a : Int) r v 3 (a : Int) 5 (a : Int) (e : Int) y l w5 hS5 (HSR.out.slgb HLR.out hg5) hB hll)); (have HFO := Lib.hid (fail_old S t (a : Int) r v 3 (a : Int) 11 (a : Int) w5 hS5 (by decide)))) | (go_at_call 58; (with_reducible refine HADD.out.mono ?_); (rintro e w6 ⟨rfl, ⟨v6, hS6, hL6⟩, hb6, _⟩)))
                go_returns
                exact ⟨rfl, ⟨_, _, _, _, v6, _, hS6, hL6, (fun h => absurd h (show ¬ ((3 : Int) = 0) by decide)), (fun _ => ⟨rfl, rfl⟩)⟩, ((HB.out.mono (by omega)).trans (hg5.below hB (by omega))).trans hb6⟩
              · have hRe : RR = ⟨r, (a : Int), l, (a : Int), 3⟩ := by rw [HRK.out]; exact if_pos h100
                subst hRe
                have HFA := Lib.hid (fail_new S t (a : Int) r v b 3 (a : Int) wr HSR.out)
                go_wp2_with (first | (go_at_call 98; (with_reducible refine (H1.out).mono ?_); rintro e w' ⟨rfl, rfl⟩) | (go_at_call 60; (with_reducible refine (H2.out).mono ?_); rintro e w' ⟨rfl, rfl⟩) | (go_at_call 59; (with_reducible refine (H3.out _).mono ?_); rintro e w' ⟨rfl, rfl⟩) | (go_at_call 62; (with_reducible refine (H4.out).mono ?_); rintro e w' ⟨rfl, rfl⟩) | (go_at_call 69; (with_reducible refine (H5.out _).mono ?_); rintro e w' ⟨rfl, rfl⟩) | (go_at_call 99; (with_reducible refine (H6.out _).mono ?_); rintro e w' ⟨rfl, rfl⟩) | (go_at_call 102; (with_reducible refine (HSZ.out _).mono ?_); rintro e w' ⟨rfl, rfl⟩) | (go_at_call 54; (with_reducible refine (HFO.out).mono ?_); rintro e w' ⟨rfl, rfl⟩) | (go_at_call 54; (with_reducible refine HFA.out.mono ?_); (rintro e w5 ⟨rfl, hS5, hg5⟩); (have HADD := Lib.hid (radd_any B S t (a : Int) r v 3 (a : Int) 5 (a : Int) (e : Int) y l w5 hS5 (HSR.out.slgb HLR.out hg5) hB hll)); (have HFO := Lib.hid (fail_old S t (a : Int) r v 3 (a : Int) 11 (a : Int) w5 hS5 (by decide)))) | (go_at_call 58; (with_reducible refine HADD.out.mono ?_); (rintro e w6 ⟨rfl, ⟨v6, hS6, hL6⟩, hb6, _⟩)))
                go_returns
                exact ⟨rfl, ⟨_, _, _, _, v6, _, hS6, hL6, (fun h => absurd h (show ¬ ((3 : Int) = 0) by decide)), (fun _ => ⟨rfl, rfl⟩)⟩, ((HB.out.mono (by omega)).trans (hg5.below hB (by omega))).trans hb6⟩
            · have h100b : decide ((n : Int) > 100) = false := decide_eq_false (by omega)
              cases bd
              · have hRe : RR = ⟨r, (e : Int), l ++ [(5, y, (a : Int))], 0, 0⟩ := by rw [HRK.out, if_neg h100]; exact if_neg (by decide)
                subst hRe
                have HADD := Lib.hid (radd_any B S t (a : Int) r v 0 b 5 (a : Int) (e : Int) y l wr HSR.out HLR.out hB hll)
                go_wp2_with (first | (go_at_call 98; (with_reducible refine (H1.out).mono ?_); rintro e w' ⟨rfl, rfl⟩) | (go_at_call 60; (with_reducible refine (H2.out).mono ?_); rintro e w' ⟨rfl, rfl⟩) | (go_at_call 59; (with_reducible refine (H3.out _).mono ?_); rintro e w' ⟨rfl, rfl⟩) | (go_at_call 62; (with_reducible refine (H4.out).mono ?_); rintro e w' ⟨rfl, rfl⟩) | (go_at_call 69; (with_reducible refine (H5.out _).mono ?_); rintro e w' ⟨rfl, rfl⟩) | (go_at_call 99; (with_reducible refine (H6.out _).mono ?_); rintro e w' ⟨rfl, rfl⟩) | (go_at_call 102; (with_reducible refine (HSZ.out _).mono ?_); rintro e w' ⟨rfl, rfl⟩) | (go_at_call 58; (with_reducible refine HADD.out.mono ?_); (rintro e w6 ⟨rfl, ⟨v6, hS6, hL6⟩, hb6, _⟩)))
                go_returns
                exact ⟨rfl, ⟨_, _, _, _, v6, _, hS6, hL6, (fun _ => ⟨rfl, rfl, rfl, rfl⟩), (fun h => absurd rfl h)⟩, (HB.out.mono (by omega)).trans hb6⟩
              · have hRe : RR = ⟨r, (a : Int), l, (a : Int), 11⟩ := by rw [HRK.out]; exact by rw [if_neg h100]; exact if_pos rfl
                subst hRe
                have HFA := Lib.hid (fail_new S t (a : Int) r v b 11 (a : Int) wr HSR.out)
                go_wp2_with (first | (go_at_call 98; (with_reducible refine (H1.out).mono ?_); rintro e w' ⟨rfl, rfl⟩) | (go_at_call 60; (with_reducible refine (H2.out).mono ?_); rintro e w' ⟨rfl, rfl⟩) | (go_at_call 59; (with_reducible refine (H3.out _).mono ?_); rintro e w' ⟨rfl, rfl⟩) | (go_at_call 62; (with_reducible refine (H4.out).mono ?_); rintro e w' ⟨rfl, rfl⟩) | (go_at_call 69; (with_reducible refine (H5.out _).mono ?_); rintro e w' ⟨rfl, rfl⟩) | (go_at_call 99; (with_reducible refine (H6.out _).mono ?_); rintro e w' ⟨rfl, rfl⟩) | (go_at_call 102; (with_reducible refine (HSZ.out _).mono ?_); rintro e w' ⟨rfl, rfl⟩) | (go_at_call 54; (with_reducible refine HFA.out.mono ?_); (rintro e w5 ⟨rfl, hS5, hg5⟩); (have HADD := Lib.hid (radd_any B S t (a : Int) r v 11 (a : Int) 5 (a : Int) (e : Int) y l w5 hS5 (HSR.out.slgb HLR.out hg5) hB hll)); (have HFO := Lib.hid (fail_old S t (a : Int) r v 11 (a : Int) 11 (a : Int) w5 hS5 (by decide)))) | (go_at_call 58; (with_reducible refine HADD.out.mono ?_); (rintro e w6 ⟨rfl, ⟨v6, hS6, hL6⟩, hb6, _⟩)))
                go_returns
                exact ⟨rfl, ⟨_, _, _, _, v6, _, hS6, hL6, (fun h => absurd h (show ¬ ((11 : Int) = 0) by decide)), (fun _ => ⟨rfl, rfl⟩)⟩, ((HB.out.mono (by omega)).trans (hg5.below hB (by omega))).trans hb6⟩
        · have hlt2 : k < t.size := ch_lt bHx0 (show bHx (ch r t k) = true by show bHx (chB r (pk t k)) = true; rw [HP.out]; exact hx)
          have hpi := (pk_in hlt2).symm
          rw [HP.out] at hpi
          have hgx := HX.out
          rw [hx, Bool.and_eq_true] at hgx
          have hg0 : 0 ≤ g := of_decide_eq_true hgx.1
          have hqc : q = ch r t k := by
            have : loA p = chB r p := by
              cases hlp : ltB r p
              · have h2 := hgx.2
                rw [hlp, Bool.or_false] at h2
                exact lo_chs (r := r) (by rw [h2, Bool.or_true])
              · exact (lo_ch hlp).symm
            rw [← HQ.out, this, ← HP.out]; rfl
          have HN := Lib.hid (show ((acc ++ [cu q]) ++ (rn bHx bHx0 r t (sk t (k + 1)) (k + 1)).1, (rn bHx bHx0 r t (sk t (k + 1)) (k + 1)).2) = rn bHx bHx0 r t i i by
            rw [← HR.out, HK.out, rn_yes (f := bHx) (hf := bHx0) (r := r) (t := t) (i := k) (e := e) (by show bHx (chB r (pk t k)) = true; rw [HP.out]; exact hx), ← hqc, List.append_assoc]; rfl)
          have HOV := Lib.hid (show ovD V (cu q) = decide (V ≤ g) by
            unfold ovD
            rw [cu_nat hlo.1 hlo.2, Int.toNat_of_nonneg hlo.1, HG.out])
          have HBN := Lib.hid (show (decide (V = 0) || (acc ++ [cu q]).any (ovD V)) = (bd || decide (V ≤ g)) by
            rw [List.any_append, List.any_cons, List.any_nil, Bool.or_false, ← Bool.or_assoc, HBD.out, HOV.out])
          have HYN := Lib.hid (show (⟨(ql ++ 114 :: (acc ++ [cu q])).toArray⟩ : ByteArray) = y ++ ⟨#[cu q]⟩ by
            rw [← HY.out, app_one, List.append_assoc]; rfl)
          have hor := hgx.2
          have hwz2 : w.heap.size ≤ wr.heap.size := hwz
          clear hgx hqc hx
          cases bd
          · by_cases hvg : V ≤ g
            · have hgv : decide (g ≥ V) = true := decide_eq_true hvg
              have HBF := Lib.hid (show (decide (V = 0) || (acc ++ [cu q]).any (ovD V)) = true by rw [HBN.out, decide_eq_true hvg]; rfl)
              rcases Bool.eq_false_or_eq_true (bDi p) with hd1 | hd1
              · rw [hd1] at H3
                clear hd1 hor
                go_wp2_with (first | (go_at_call 98; (with_reducible refine (H1.out).mono ?_); rintro e w' ⟨rfl, rfl⟩) | (go_at_call 60; (with_reducible refine (H2.out).mono ?_); rintro e w' ⟨rfl, rfl⟩) | (go_at_call 59; (with_reducible refine (H3.out _).mono ?_); rintro e w' ⟨rfl, rfl⟩) | (go_at_call 62; (with_reducible refine (H4.out).mono ?_); rintro e w' ⟨rfl, rfl⟩) | (go_at_call 69; (with_reducible refine (H5.out _).mono ?_); rintro e w' ⟨rfl, rfl⟩) | (go_at_call 99; (with_reducible refine (H6.out _).mono ?_); rintro e w' ⟨rfl, rfl⟩))
                go_roundw
                case rel => exact ⟨acc ++ [cu q], k + 1, by omega, by simp; omega, hlt2, HN.out, by rw [HYN.out], by go_num, by rw [HBF.out], HB.out.alloc hwz2 _⟩
                case measure => simp [intOf]; omega
              · have hd2 : ltB r p = true := by rw [hd1, Bool.false_or] at hor; exact hor
                rw [hd1] at H3
                rw [hd2] at H4
                clear hd1 hd2 hor
                go_wp2_with (first | (go_at_call 98; (with_reducible refine (H1.out).mono ?_); rintro e w' ⟨rfl, rfl⟩) | (go_at_call 60; (with_reducible refine (H2.out).mono ?_); rintro e w' ⟨rfl, rfl⟩) | (go_at_call 59; (with_reducible refine (H3.out _).mono ?_); rintro e w' ⟨rfl, rfl⟩) | (go_at_call 62; (with_reducible refine (H4.out).mono ?_); rintro e w' ⟨rfl, rfl⟩) | (go_at_call 69; (with_reducible refine (H5.out _).mono ?_); rintro e w' ⟨rfl, rfl⟩) | (go_at_call 99; (with_reducible refine (H6.out _).mono ?_); rintro e w' ⟨rfl, rfl⟩))
                go_roundw
                case rel => exact ⟨acc ++ [cu q], k + 1, by omega, by simp; omega, hlt2, HN.out, by rw [HYN.out], by go_num, by rw [HBF.out], HB.out.alloc hwz2 _⟩
                case measure => simp [intOf]; omega
            · have hgv : decide (g ≥ V) = false := decide_eq_false hvg
              have HBF := Lib.hid (show (decide (V = 0) || (acc ++ [cu q]).any (ovD V)) = false by rw [HBN.out, decide_eq_false hvg]; rfl)
              rcases Bool.eq_false_or_eq_true (bDi p) with hd1 | hd1
              · rw [hd1] at H3
                clear hd1 hor
                go_wp2_with (first | (go_at_call 98; (with_reducible refine (H1.out).mono ?_); rintro e w' ⟨rfl, rfl⟩) | (go_at_call 60; (with_reducible refine (H2.out).mono ?_); rintro e w' ⟨rfl, rfl⟩) | (go_at_call 59; (with_reducible refine (H3.out _).mono ?_); rintro e w' ⟨rfl, rfl⟩) | (go_at_call 62; (with_reducible refine (H4.out).mono ?_); rintro e w' ⟨rfl, rfl⟩) | (go_at_call 69; (with_reducible refine (H5.out _).mono ?_); rintro e w' ⟨rfl, rfl⟩) | (go_at_call 99; (with_reducible refine (H6.out _).mono ?_); rintro e w' ⟨rfl, rfl⟩))
                go_roundw
                case rel => exact ⟨acc ++ [cu q], k + 1, by omega, by simp; omega, hlt2, HN.out, by rw [HYN.out], by go_num, by rw [HBF.out], HB.out.alloc hwz2 _⟩
                case measure => simp [intOf]; omega
              · have hd2 : ltB r p = true := by rw [hd1, Bool.false_or] at hor; exact hor
                rw [hd1] at H3
                rw [hd2] at H4
                clear hd1 hd2 hor
                go_wp2_with (first | (go_at_call 98; (with_reducible refine (H1.out).mono ?_); rintro e w' ⟨rfl, rfl⟩) | (go_at_call 60; (with_reducible refine (H2.out).mono ?_); rintro e w' ⟨rfl, rfl⟩) | (go_at_call 59; (with_reducible refine (H3.out _).mono ?_); rintro e w' ⟨rfl, rfl⟩) | (go_at_call 62; (with_reducible refine (H4.out).mono ?_); rintro e w' ⟨rfl, rfl⟩) | (go_at_call 69; (with_reducible refine (H5.out _).mono ?_); rintro e w' ⟨rfl, rfl⟩) | (go_at_call 99; (with_reducible refine (H6.out _).mono ?_); rintro e w' ⟨rfl, rfl⟩))
                go_roundw
                case rel => exact ⟨acc ++ [cu q], k + 1, by omega, by simp; omega, hlt2, HN.out, by rw [HYN.out], by go_num, by rw [HBF.out], HB.out.alloc hwz2 _⟩
                case measure => simp [intOf]; omega
          · have HBF := Lib.hid (show (decide (V = 0) || (acc ++ [cu q]).any (ovD V)) = true by rw [HBN.out]; rfl)
            rcases Bool.eq_false_or_eq_true (bDi p) with hd1 | hd1
            · rw [hd1] at H3
              clear hd1 hor
              go_wp2_with (first | (go_at_call 98; (with_reducible refine (H1.out).mono ?_); rintro e w' ⟨rfl, rfl⟩) | (go_at_call 60; (with_reducible refine (H2.out).mono ?_); rintro e w' ⟨rfl, rfl⟩) | (go_at_call 59; (with_reducible refine (H3.out _).mono ?_); rintro e w' ⟨rfl, rfl⟩) | (go_at_call 62; (with_reducible refine (H4.out).mono ?_); rintro e w' ⟨rfl, rfl⟩) | (go_at_call 69; (with_reducible refine (H5.out _).mono ?_); rintro e w' ⟨rfl, rfl⟩) | (go_at_call 99; (with_reducible refine (H6.out _).mono ?_); rintro e w' ⟨rfl, rfl⟩))
              go_roundw
              case rel => exact ⟨acc ++ [cu q], k + 1, by omega, by simp; omega, hlt2, HN.out, by rw [HYN.out], by go_num, by rw [HBF.out], HB.out.alloc hwz2 _⟩
              case measure => simp [intOf]; omega
            · have hd2 : ltB r p = true := by rw [hd1, Bool.false_or] at hor; exact hor
              rw [hd1] at H3
              rw [hd2] at H4
              clear hd1 hd2 hor
              go_wp2_with (first | (go_at_call 98; (with_reducible refine (H1.out).mono ?_); rintro e w' ⟨rfl, rfl⟩) | (go_at_call 60; (with_reducible refine (H2.out).mono ?_); rintro e w' ⟨rfl, rfl⟩) | (go_at_call 59; (with_reducible refine (H3.out _).mono ?_); rintro e w' ⟨rfl, rfl⟩) | (go_at_call 62; (with_reducible refine (H4.out).mono ?_); rintro e w' ⟨rfl, rfl⟩) | (go_at_call 69; (with_reducible refine (H5.out _).mono ?_); rintro e w' ⟨rfl, rfl⟩) | (go_at_call 99; (with_reducible refine (H6.out _).mono ?_); rintro e w' ⟨rfl, rfl⟩))
              go_roundw
              case rel => exact ⟨acc ++ [cu q], k + 1, by omega, by simp; omega, hlt2, HN.out, by rw [HYN.out], by go_num, by rw [HBF.out], HB.out.alloc hwz2 _⟩
              case measure => simp [intOf]; omega
theorem dg_16 : (∀ j, j < (⟨#[49, 54]⟩ : ByteArray).size → 48 ≤ pk ⟨#[49, 54]⟩ j ∧ pk ⟨#[49, 54]⟩ j ≤ 57) ∧ dvx ⟨#[49, 54]⟩ (⟨#[49, 54]⟩ : ByteArray).size = 16 ∧ (⟨#[49, 54]⟩ : ByteArray).size ≤ 2 := by
  refine ⟨?_, by decide, by decide⟩
  intro j h
  match j, h with
  | 0, _ => decide
  | 1, _ => decide
  | j + 2, h => exact absurd (show j + 2 < 2 from h) (by omega)
set_option maxRecDepth 100000 in
set_option maxHeartbeats 8000000 in
theorem rbits_r16 (B S a i : Nat) (t x : ByteArray) (ql : List UInt8) (hxq : x = ⟨ql.toArray⟩) (r b : Int) (v : Value) (l : List Sy) (w : World) (hS : Rc w S t (a : Int) r v 0 b) (hL : Sl w B v l) (hB : B ≤ S) (hl : t.size ≤ 100000) (hll : l.length ≤ 1000000) (hi : i ≤ t.size) (hsk : sk t i = i) (hql : ql.length ≤ 100000) (V : Int) (hV : rdV ql = V) (hqe : ql = [49, 54]) :
    Calls Tryz.prog 100 #[.pointer (some ⟨S, 0, none⟩), .string x, .int .i64 (a : Int), .int .i64 (i : Int)] w (RPo B S t w (bkR r t a i ql l)) := by
  have hlt := hS.lt
  have HC : Hid (∀ W, Below w.heap.size w W → Rc W S t (a : Int) r v 0 b ∧ Sl W B v l) := Lib.hid (fun W hb => ⟨hS.kept hb, hS.sl hL hb⟩)
  have HI := Lib.hid hi
  have HSK := Lib.hid hsk
  have HVV := Lib.hid hV
  have HXQ := Lib.hid hxq
  have hxs : x.size ≤ 100000 := by rw [hxq]; show ql.toArray.size ≤ _; rw [List.size_toArray]; exact hql
  have HAP : Hid (x ++ ⟨#[114]⟩ = ⟨(ql ++ [114]).toArray⟩) := Lib.hid (by rw [hxq]; exact app_one ql 114)
  obtain ⟨RR, hRR⟩ : ∃ R, bkR r t a i ql l = R := ⟨_, rfl⟩
  rw [hRR]
  have HRR := Lib.hid hRR
  have k2 : (x.toList == [50]) = false := by rw [hxq, hqe, ByteArray.toList_eq]; decide
  have k4 : (x.toList == [52]) = false := by rw [hxq, hqe, ByteArray.toList_eq]; decide
  have k8 : (x.toList == [56]) = false := by rw [hxq, hqe, ByteArray.toList_eq]; decide
  have k16 : (x.toList == [49, 54]) = true := by rw [hxq, hqe, ByteArray.toList_eq]; rfl
  have hxc : x = ⟨#[49, 54]⟩ := by rw [hxq, hqe]
  have HDG : Hid (∀ j, j < x.size → 48 ≤ pk x j ∧ pk x j ≤ 57) := Lib.hid (by rw [hxc]; exact dg_16.1)
  have HDV : Hid (dvx x x.size = V) := Lib.hid (by rw [hxc, ← hV, hqe]; exact dg_16.2.1)
  have hx2 : x.size ≤ 2 := by rw [hxc]; exact dg_16.2.2
  have HVP : Hid (V ≠ 0) := Lib.hid (by rw [← hV, hqe]; decide)
  have hVb : V ≤ 16 := by rw [← hV, hqe]; decide
  have hVb0 : 2 ≤ V := by rw [← hV, hqe]; decide
  clear hxc hqe
  clear hS hL hsk hi hRR hV hxq
  go_enter Tryz.func100, Tryz.ntmps100
  go_wp2
  go_loop [11, 12] (fun v11 v12 => ∃ k : Nat, k ≤ x.size ∧ v12 = .int .i64 k ∧ v11 = .int .i64 (dvx x k)) (fun _ v12 => x.size - (intOf v12).toNat)
  case atStart => exact ⟨0, Nat.zero_le _, rfl, rfl⟩
  case round =>
    obtain ⟨k, hk, rfl, rfl⟩ := hrel
    by_cases hkx : k < x.size
    · have hd := HDG.out k hkx
      have hpi := (pk_in hkx).symm
      have hv := dv_bd HDG.out k hk (by omega)
      have HN := Lib.hid (show dvx x (k + 1) = 10 * dvx x k + (pk x k - 48) from rfl)
      obtain ⟨p, hp⟩ : ∃ p, pk x k = p := ⟨_, rfl⟩
      obtain ⟨u, hu⟩ : ∃ u, dvx x k = u := ⟨_, rfl⟩
      rw [hp] at hd hpi HN
      rw [hu] at hv HN
      rw [hu]
      clear hp hu
      go_wp2
      go_round
      case rel => exact ⟨k + 1, hkx, by go_num, by rw [HN.out]⟩
      case measure => simp [intOf]; omega
    · have hke : k = x.size := by omega
      subst hke
      rw [HDV.out]
      go_wp2
      go_loopw [8, 9, 10] (fun v8 v9 v10 wr => ∃ (acc : List UInt8) (e : Nat), i ≤ e ∧ acc.length ≤ e ∧ e ≤ t.size ∧ (acc ++ (rn bHx bHx0 r t (sk t e) e).1, (rn bHx bHx0 r t (sk t e) e).2) = rn bHx bHx0 r t i i ∧ v8 = .string ⟨(ql ++ 114 :: acc).toArray⟩ ∧ v9 = .int .i64 e ∧ v10 = .bool (decide (V = 0) || acc.any (ovD V)) ∧ Below w.heap.size w wr) (fun _ v9 _ _ => t.size - (intOf v9).toNat)
      case atStart => exact ⟨[], i, Nat.le_refl _, Nat.zero_le _, HI.out, by rw [HSK.out]; rfl, by rw [HAP.out], rfl, by rw [decide_eq_false HVP.out]; rfl, Below.refl _ w⟩
      case round =>
        obtain ⟨acc, e, hie, hal, he, hrn, rfl, rfl, rfl, hb⟩ := hrel
        have hks := sk_ge t e
        have hkl := sk_le he
        have hRc := (HC.out wr hb).1
        have c0 := hRc.c0
        have H1 := Lib.hid (behind_any t S e wr c0 hl (by omega))
        have H2 := Lib.hid (at_any t S (sk t e) wr c0 hl (by omega))
        have HR := Lib.hid hrn
        obtain ⟨k, hk⟩ : ∃ k, sk t e = k := ⟨_, rfl⟩
        have HK := Lib.hid hk
        rw [hk] at H1 H2 hks hkl
        have hp := pk_bd t k
        obtain ⟨p, hpe⟩ : ∃ p, pk t k = p := ⟨_, rfl⟩
        have HP := Lib.hid hpe
        rw [hpe] at hp H2
        have hlo := lo_bd hp.1 hp.2
        have H3 := Lib.hid (fun w => rb_di p w hp.1 hp.2)
        have H4 := Lib.hid (letter_any S r p wr hRc.c2 hp.1 hp.2)
        have H5 := Lib.hid (fun w => rb_lo p w hp.1 hp.2)
        have H6 := Lib.hid (fun w => rb_hx (loA p) w hlo.1 hlo.2)
        have hhb := hx_bd (loA p)
        have HX := Lib.hid (hx_ch r p)
        have hal2 : acc.length ≤ 100000 := by omega
        have hwz := hb.size
        have HB := Lib.hid hb
        have HCV := fun W => conv_one (loA p) hlo.1 hlo.2 W
        obtain ⟨q, hq⟩ : ∃ q, loA p = q := ⟨_, rfl⟩
        have HQ := Lib.hid hq
        rw [hq] at H5 H6 hhb HX HCV hlo
        obtain ⟨g, hg⟩ : ∃ g, hxA q = g := ⟨_, rfl⟩
        have HG := Lib.hid hg
        rw [hg] at H6 hhb HX
        obtain ⟨y, hy⟩ : ∃ y, (⟨(ql ++ 114 :: acc).toArray⟩ : ByteArray) = y := ⟨_, rfl⟩
        have hys : y.size ≤ 300000 := by rw [← hy]; show (ql ++ 114 :: acc).toArray.size ≤ _; rw [List.size_toArray, List.length_append, List.length_cons]; omega
        have HY := Lib.hid hy
        rw [hy]
        obtain ⟨bd, hbd⟩ : ∃ bd, (decide (V = 0) || acc.any (ovD V)) = bd := ⟨_, rfl⟩
        have HBD := Lib.hid hbd
        rw [hbd]
        clear hrn hk hpe hRc hb hq hg hy hbd
        cases hx : bHx (chB r p)
        · have hsd : bHx (ch r t (sk t e)) = false := by show bHx (chB r (pk t (sk t e))) = false; rw [HK.out, HP.out]; exact hx
          have hN : rn bHx bHx0 r t i i = (acc, e) := by rw [← HR.out, rn_no hsd, List.append_nil]
          have HNN := Lib.hid hN
          have hSr := (HC.out wr HB.out).1
          have hLr := (HC.out wr HB.out).2
          have hRk : RR = if 100 < lc y 0 then ⟨r, a, l, a, 3⟩ else if bd = true then ⟨r, a, l, a, 11⟩ else ⟨r, e, l ++ [(5, y, (a : Int))], 0, 0⟩ := by
            rw [← HRR.out]
            unfold bkR
            rw [hN, HVV.out]
            simp only
            rw [HY.out, HBD.out]
          have HRK := Lib.hid hRk
          have HSZ := Lib.hid (fun W => rsize_any y W (by omega))
          have hys2 := hys
          have HSR := Lib.hid hSr
          have HLR := Lib.hid hLr
          have hgx := HX.out
          rw [hx] at hgx
          obtain ⟨n, hn⟩ : ∃ n, lc y 0 = n := ⟨_, rfl⟩
          rw [hn] at HSZ HRK
          clear hsd hN hSr hLr hRk hx hn
          have hstop : g < 0 ∨ (0 ≤ g ∧ bDi p = false ∧ ltB r p = false) := by
            by_cases h0 : g < 0
            · exact Or.inl h0
            · rw [decide_eq_true (by omega), Bool.true_and, Bool.or_eq_false_iff] at hgx
              exact Or.inr ⟨by omega, hgx.1, hgx.2⟩
          clear hgx
          rcases hstop with h0 | ⟨h0, hd1, hd2⟩
          rotate_left
          · rw [hd2] at H4
            rw [hd1] at H3
            clear hd1 hd2
            by_cases h100 : 100 < n
            · have h100b : decide ((n : Int) > 100) = true := decide_eq_true (by omega)
              cases bd
              · have hRe : RR = ⟨r, (a : Int), l, (a : Int), 3⟩ := by rw [HRK.out]; exact if_pos h100
                subst hRe
                have HFA := Lib.hid (fail_new S t (a : Int) r v b 3 (a : Int) wr HSR.out)
                go_wp2_with (first | (go_at_call 98; (with_reducible refine (H1.out).mono ?_); rintro e w' ⟨rfl, rfl⟩) | (go_at_call 60; (with_reducible refine (H2.out).mono ?_); rintro e w' ⟨rfl, rfl⟩) | (go_at_call 59; (with_reducible refine (H3.out _).mono ?_); rintro e w' ⟨rfl, rfl⟩) | (go_at_call 62; (with_reducible refine (H4.out).mono ?_); rintro e w' ⟨rfl, rfl⟩) | (go_at_call 69; (with_reducible refine (H5.out _).mono ?_); rintro e w' ⟨rfl, rfl⟩) | (go_at_call 99; (with_reducible refine (H6.out _).mono ?_); rintro e w' ⟨rfl, rfl⟩) | (go_at_call 102; (with_reducible refine (HSZ.out _).mono ?_); rintro e w' ⟨rfl, rfl⟩) | (go_at_call 54; (with_reducible refine HFA.out.mono ?_); (rintro e w5 ⟨rfl, hS5, hg5⟩); (have HADD := Lib.hid (radd_any B S t (a : Int) r v 3 (a : Int) 5 (a : Int) (e : Int) y l w5 hS5 (HSR.out.slgb HLR.out hg5) hB hll)); (have HFO := Lib.hid (fail_old S t (a : Int) r v 3 (a : Int) 11 (a : Int) w5 hS5 (by decide)))) | (go_at_call 58; (with_reducible refine HADD.out.mono ?_); (rintro e w6 ⟨rfl, ⟨v6, hS6, hL6⟩, hb6, _⟩)))
                go_returns
                exact ⟨rfl, ⟨_, _, _, _, v6, _, hS6, hL6, (fun h => absurd h (show ¬ ((3 : Int) = 0) by decide)), (fun _ => ⟨rfl, rfl⟩)⟩, ((HB.out.mono (by omega)).trans (hg5.below hB (by omega))).trans hb6⟩
              · have hRe : RR = ⟨r, (a : Int), l, (a : Int), 3⟩ := by rw [HRK.out]; exact if_pos h100
                subst hRe
                have HFA := Lib.hid (fail_new S t (a : Int) r v b 3 (a : Int) wr HSR.out)
                go_wp2_with (first | (go_at_call 98; (with_reducible refine (H1.out).mono ?_); rintro e w' ⟨rfl, rfl⟩) | (go_at_call 60; (with_reducible refine (H2.out).mono ?_); rintro e w' ⟨rfl, rfl⟩) | (go_at_call 59; (with_reducible refine (H3.out _).mono ?_); rintro e w' ⟨rfl, rfl⟩) | (go_at_call 62; (with_reducible refine (H4.out).mono ?_); rintro e w' ⟨rfl, rfl⟩) | (go_at_call 69; (with_reducible refine (H5.out _).mono ?_); rintro e w' ⟨rfl, rfl⟩) | (go_at_call 99; (with_reducible refine (H6.out _).mono ?_); rintro e w' ⟨rfl, rfl⟩) | (go_at_call 102; (with_reducible refine (HSZ.out _).mono ?_); rintro e w' ⟨rfl, rfl⟩) | (go_at_call 54; (with_reducible refine (HFO.out).mono ?_); rintro e w' ⟨rfl, rfl⟩) | (go_at_call 54; (with_reducible refine HFA.out.mono ?_); (rintro e w5 ⟨rfl, hS5, hg5⟩); (have HADD := Lib.hid (radd_any B S t (a : Int) r v 3 (a : Int) 5 (a : Int) (e : Int) y l w5 hS5 (HSR.out.slgb HLR.out hg5) hB hll)); (have HFO := Lib.hid (fail_old S t (a : Int) r v 3 (a : Int) 11 (a : Int) w5 hS5 (by decide)))) | (go_at_call 58; (with_reducible refine HADD.out.mono ?_); (rintro e w6 ⟨rfl, ⟨v6, hS6, hL6⟩, hb6, _⟩)))
                go_returns
                exact ⟨rfl, ⟨_, _, _, _, v6, _, hS6, hL6, (fun h => absurd h (show ¬ ((3 : Int) = 0) by decide)), (fun _ => ⟨rfl, rfl⟩)⟩, ((HB.out.mono (by omega)).trans (hg5.below hB (by omega))).trans hb6⟩
            · have h100b : decide ((n : Int) > 100) = false := decide_eq_false (by omega)
              cases bd
              · have hRe : RR = ⟨r, (e : Int), l ++ [(5, y, (a : Int))], 0, 0⟩ := by rw [HRK.out, if_neg h100]; exact if_neg (by decide)
                subst hRe
                have HADD := Lib.hid (radd_any B S t (a : Int) r v 0 b 5 (a : Int) (e : Int) y l wr HSR.out HLR.out hB hll)
                go_wp2_with (first | (go_at_call 98; (with_reducible refine (H1.out).mono ?_); rintro e w' ⟨rfl, rfl⟩) | (go_at_call 60; (with_reducible refine (H2.out).mono ?_); rintro e w' ⟨rfl, rfl⟩) | (go_at_call 59; (with_reducible refine (H3.out _).mono ?_); rintro e w' ⟨rfl, rfl⟩) | (go_at_call 62; (with_reducible refine (H4.out).mono ?_); rintro e w' ⟨rfl, rfl⟩) | (go_at_call 69; (with_reducible refine (H5.out _).mono ?_); rintro e w' ⟨rfl, rfl⟩) | (go_at_call 99; (with_reducible refine (H6.out _).mono ?_); rintro e w' ⟨rfl, rfl⟩) | (go_at_call 102; (with_reducible refine (HSZ.out _).mono ?_); rintro e w' ⟨rfl, rfl⟩) | (go_at_call 58; (with_reducible refine HADD.out.mono ?_); (rintro e w6 ⟨rfl, ⟨v6, hS6, hL6⟩, hb6, _⟩)))
                go_returns
                exact ⟨rfl, ⟨_, _, _, _, v6, _, hS6, hL6, (fun _ => ⟨rfl, rfl, rfl, rfl⟩), (fun h => absurd rfl h)⟩, (HB.out.mono (by omega)).trans hb6⟩
              · have hRe : RR = ⟨r, (a : Int), l, (a : Int), 11⟩ := by rw [HRK.out]; exact by rw [if_neg h100]; exact if_pos rfl
                subst hRe
                have HFA := Lib.hid (fail_new S t (a : Int) r v b 11 (a : Int) wr HSR.out)
                go_wp2_with (first | (go_at_call 98; (with_reducible refine (H1.out).mono ?_); rintro e w' ⟨rfl, rfl⟩) | (go_at_call 60; (with_reducible refine (H2.out).mono ?_); rintro e w' ⟨rfl, rfl⟩) | (go_at_call 59; (with_reducible refine (H3.out _).mono ?_); rintro e w' ⟨rfl, rfl⟩) | (go_at_call 62; (with_reducible refine (H4.out).mono ?_); rintro e w' ⟨rfl, rfl⟩) | (go_at_call 69; (with_reducible refine (H5.out _).mono ?_); rintro e w' ⟨rfl, rfl⟩) | (go_at_call 99; (with_reducible refine (H6.out _).mono ?_); rintro e w' ⟨rfl, rfl⟩) | (go_at_call 102; (with_reducible refine (HSZ.out _).mono ?_); rintro e w' ⟨rfl, rfl⟩) | (go_at_call 54; (with_reducible refine HFA.out.mono ?_); (rintro e w5 ⟨rfl, hS5, hg5⟩); (have HADD := Lib.hid (radd_any B S t (a : Int) r v 11 (a : Int) 5 (a : Int) (e : Int) y l w5 hS5 (HSR.out.slgb HLR.out hg5) hB hll)); (have HFO := Lib.hid (fail_old S t (a : Int) r v 11 (a : Int) 11 (a : Int) w5 hS5 (by decide)))) | (go_at_call 58; (with_reducible refine HADD.out.mono ?_); (rintro e w6 ⟨rfl, ⟨v6, hS6, hL6⟩, hb6, _⟩)))
                go_returns
                exact ⟨rfl, ⟨_, _, _, _, v6, _, hS6, hL6, (fun h => absurd h (show ¬ ((11 : Int) = 0) by decide)), (fun _ => ⟨rfl, rfl⟩)⟩, ((HB.out.mono (by omega)).trans (hg5.below hB (by omega))).trans hb6⟩
          · by_cases h100 : 100 < n
            · have h100b : decide ((n : Int) > 100) = true := decide_eq_true (by omega)
              cases bd
              · have hRe : RR = ⟨r, (a : Int), l, (a : Int), 3⟩ := by rw [HRK.out]; exact if_pos h100
                subst hRe
                have HFA := Lib.hid (fail_new S t (a : Int) r v b 3 (a : Int) wr HSR.out)
                go_wp2_with (first | (go_at_call 98; (with_reducible refine (H1.out).mono ?_); rintro e w' ⟨rfl, rfl⟩) | (go_at_call 60; (with_reducible refine (H2.out).mono ?_); rintro e w' ⟨rfl, rfl⟩) | (go_at_call 59; (with_reducible refine (H3.out _).mono ?_); rintro e w' ⟨rfl, rfl⟩) | (go_at_call 62; (with_reducible refine (H4.out).mono ?_); rintro e w' ⟨rfl, rfl⟩) | (go_at_call 69; (with_reducible refine (H5.out _).mono ?_); rintro e w' ⟨rfl, rfl⟩) | (go_at_call 99; (with_reducible refine (H6.out _).mono ?_); rintro e w' ⟨rfl, rfl⟩) | (go_at_call 102; (with_reducible refine (HSZ.out _).mono ?_); rintro e w' ⟨rfl, rfl⟩) | (go_at_call 54; (with_reducible refine HFA.out.mono ?_); (rintro e w5 ⟨rfl, hS5, hg5⟩); (have HADD := Lib.hid (radd_any B S t (a : Int) r v 3 (a : Int) 5 (a : Int) (e : Int) y l w5 hS5 (HSR.out.slgb HLR.out hg5) hB hll)); (have HFO := Lib.hid (fail_old S t (a : Int) r v 3 (a : Int) 11 (a : Int) w5 hS5 (by decide)))) | (go_at_call 58; (with_reducible refine HADD.out.mono ?_); (rintro e w6 ⟨rfl, ⟨v6, hS6, hL6⟩, hb6, _⟩)))
                go_returns
                exact ⟨rfl, ⟨_, _, _, _, v6, _, hS6, hL6, (fun h => absurd h (show ¬ ((3 : Int) = 0) by decide)), (fun _ => ⟨rfl, rfl⟩)⟩, ((HB.out.mono (by omega)).trans (hg5.below hB (by omega))).trans hb6⟩
              · have hRe : RR = ⟨r, (a : Int), l, (a : Int), 3⟩ := by rw [HRK.out]; exact if_pos h100
                subst hRe
                have HFA := Lib.hid (fail_new S t (a : Int) r v b 3 (a : Int) wr HSR.out)
                go_wp2_with (first | (go_at_call 98; (with_reducible refine (H1.out).mono ?_); rintro e w' ⟨rfl, rfl⟩) | (go_at_call 60; (with_reducible refine (H2.out).mono ?_); rintro e w' ⟨rfl, rfl⟩) | (go_at_call 59; (with_reducible refine (H3.out _).mono ?_); rintro e w' ⟨rfl, rfl⟩) | (go_at_call 62; (with_reducible refine (H4.out).mono ?_); rintro e w' ⟨rfl, rfl⟩) | (go_at_call 69; (with_reducible refine (H5.out _).mono ?_); rintro e w' ⟨rfl, rfl⟩) | (go_at_call 99; (with_reducible refine (H6.out _).mono ?_); rintro e w' ⟨rfl, rfl⟩) | (go_at_call 102; (with_reducible refine (HSZ.out _).mono ?_); rintro e w' ⟨rfl, rfl⟩) | (go_at_call 54; (with_reducible refine (HFO.out).mono ?_); rintro e w' ⟨rfl, rfl⟩) | (go_at_call 54; (with_reducible refine HFA.out.mono ?_); (rintro e w5 ⟨rfl, hS5, hg5⟩); (have HADD := Lib.hid (radd_any B S t (a : Int) r v 3 (a : Int) 5 (a : Int) (e : Int) y l w5 hS5 (HSR.out.slgb HLR.out hg5) hB hll)); (have HFO := Lib.hid (fail_old S t (a : Int) r v 3 (a : Int) 11 (a : Int) w5 hS5 (by decide)))) | (go_at_call 58; (with_reducible refine HADD.out.mono ?_); (rintro e w6 ⟨rfl, ⟨v6, hS6, hL6⟩, hb6, _⟩)))
                go_returns
                exact ⟨rfl, ⟨_, _, _, _, v6, _, hS6, hL6, (fun h => absurd h (show ¬ ((3 : Int) = 0) by decide)), (fun _ => ⟨rfl, rfl⟩)⟩, ((HB.out.mono (by omega)).trans (hg5.below hB (by omega))).trans hb6⟩
            · have h100b : decide ((n : Int) > 100) = false := decide_eq_false (by omega)
              cases bd
              · have hRe : RR = ⟨r, (e : Int), l ++ [(5, y, (a : Int))], 0, 0⟩ := by rw [HRK.out, if_neg h100]; exact if_neg (by decide)
                subst hRe
                have HADD := Lib.hid (radd_any B S t (a : Int) r v 0 b 5 (a : Int) (e : Int) y l wr HSR.out HLR.out hB hll)
                go_wp2_with (first | (go_at_call 98; (with_reducible refine (H1.out).mono ?_); rintro e w' ⟨rfl, rfl⟩) | (go_at_call 60; (with_reducible refine (H2.out).mono ?_); rintro e w' ⟨rfl, rfl⟩) | (go_at_call 59; (with_reducible refine (H3.out _).mono ?_); rintro e w' ⟨rfl, rfl⟩) | (go_at_call 62; (with_reducible refine (H4.out).mono ?_); rintro e w' ⟨rfl, rfl⟩) | (go_at_call 69; (with_reducible refine (H5.out _).mono ?_); rintro e w' ⟨rfl, rfl⟩) | (go_at_call 99; (with_reducible refine (H6.out _).mono ?_); rintro e w' ⟨rfl, rfl⟩) | (go_at_call 102; (with_reducible refine (HSZ.out _).mono ?_); rintro e w' ⟨rfl, rfl⟩) | (go_at_call 58; (with_reducible refine HADD.out.mono ?_); (rintro e w6 ⟨rfl, ⟨v6, hS6, hL6⟩, hb6, _⟩)))
                go_returns
                exact ⟨rfl, ⟨_, _, _, _, v6, _, hS6, hL6, (fun _ => ⟨rfl, rfl, rfl, rfl⟩), (fun h => absurd rfl h)⟩, (HB.out.mono (by omega)).trans hb6⟩
              · have hRe : RR = ⟨r, (a : Int), l, (a : Int), 11⟩ := by rw [HRK.out]; exact by rw [if_neg h100]; exact if_pos rfl
                subst hRe
                have HFA := Lib.hid (fail_new S t (a : Int) r v b 11 (a : Int) wr HSR.out)
                go_wp2_with (first | (go_at_call 98; (with_reducible refine (H1.out).mono ?_); rintro e w' ⟨rfl, rfl⟩) | (go_at_call 60; (with_reducible refine (H2.out).mono ?_); rintro e w' ⟨rfl, rfl⟩) | (go_at_call 59; (with_reducible refine (H3.out _).mono ?_); rintro e w' ⟨rfl, rfl⟩) | (go_at_call 62; (with_reducible refine (H4.out).mono ?_); rintro e w' ⟨rfl, rfl⟩) | (go_at_call 69; (with_reducible refine (H5.out _).mono ?_); rintro e w' ⟨rfl, rfl⟩) | (go_at_call 99; (with_reducible refine (H6.out _).mono ?_); rintro e w' ⟨rfl, rfl⟩) | (go_at_call 102; (with_reducible refine (HSZ.out _).mono ?_); rintro e w' ⟨rfl, rfl⟩) | (go_at_call 54; (with_reducible refine HFA.out.mono ?_); (rintro e w5 ⟨rfl, hS5, hg5⟩); (have HADD := Lib.hid (radd_any B S t (a : Int) r v 11 (a : Int) 5 (a : Int) (e : Int) y l w5 hS5 (HSR.out.slgb HLR.out hg5) hB hll)); (have HFO := Lib.hid (fail_old S t (a : Int) r v 11 (a : Int) 11 (a : Int) w5 hS5 (by decide)))) | (go_at_call 58; (with_reducible refine HADD.out.mono ?_); (rintro e w6 ⟨rfl, ⟨v6, hS6, hL6⟩, hb6, _⟩)))
                go_returns
                exact ⟨rfl, ⟨_, _, _, _, v6, _, hS6, hL6, (fun h => absurd h (show ¬ ((11 : Int) = 0) by decide)), (fun _ => ⟨rfl, rfl⟩)⟩, ((HB.out.mono (by omega)).trans (hg5.below hB (by omega))).trans hb6⟩
        · have hlt2 : k < t.size := ch_lt bHx0 (show bHx (ch r t k) = true by show bHx (chB r (pk t k)) = true; rw [HP.out]; exact hx)
          have hpi := (pk_in hlt2).symm
          rw [HP.out] at hpi
          have hgx := HX.out
          rw [hx, Bool.and_eq_true] at hgx
          have hg0 : 0 ≤ g := of_decide_eq_true hgx.1
          have hqc : q = ch r t k := by
            have : loA p = chB r p := by
              cases hlp : ltB r p
              · have h2 := hgx.2
                rw [hlp, Bool.or_false] at h2
                exact lo_chs (r := r) (by rw [h2, Bool.or_true])
              · exact (lo_ch hlp).symm
            rw [← HQ.out, this, ← HP.out]; rfl
          have HN := Lib.hid (show ((acc ++ [cu q]) ++ (rn bHx bHx0 r t (sk t (k + 1)) (k + 1)).1, (rn bHx bHx0 r t (sk t (k + 1)) (k + 1)).2) = rn bHx bHx0 r t i i by
            rw [← HR.out, HK.out, rn_yes (f := bHx) (hf := bHx0) (r := r) (t := t) (i := k) (e := e) (by show bHx (chB r (pk t k)) = true; rw [HP.out]; exact hx), ← hqc, List.append_assoc]; rfl)
          have HOV := Lib.hid (show ovD V (cu q) = decide (V ≤ g) by
            unfold ovD
            rw [cu_nat hlo.1 hlo.2, Int.toNat_of_nonneg hlo.1, HG.out])
          have HBN := Lib.hid (show (decide (V = 0) || (acc ++ [cu q]).any (ovD V)) = (bd || decide (V ≤ g)) by
            rw [List.any_append, List.any_cons, List.any_nil, Bool.or_false, ← Bool.or_assoc, HBD.out, HOV.out])
          have HYN := Lib.hid (show (⟨(ql ++ 114 :: (acc ++ [cu q])).toArray⟩ : ByteArray) = y ++ ⟨#[cu q]⟩ by
            rw [← HY.out, app_one, List.append_assoc]; rfl)
          have hor := hgx.2
          have hwz2 : w.heap.size ≤ wr.heap.size := hwz
          clear hgx hqc hx
          cases bd
          · by_cases hvg : V ≤ g
            · have hgv : decide (g ≥ V) = true := decide_eq_true hvg
              have HBF := Lib.hid (show (decide (V = 0) || (acc ++ [cu q]).any (ovD V)) = true by rw [HBN.out, decide_eq_true hvg]; rfl)
              rcases Bool.eq_false_or_eq_true (bDi p) with hd1 | hd1
              · rw [hd1] at H3
                clear hd1 hor
                go_wp2_with (first | (go_at_call 98; (with_reducible refine (H1.out).mono ?_); rintro e w' ⟨rfl, rfl⟩) | (go_at_call 60; (with_reducible refine (H2.out).mono ?_); rintro e w' ⟨rfl, rfl⟩) | (go_at_call 59; (with_reducible refine (H3.out _).mono ?_); rintro e w' ⟨rfl, rfl⟩) | (go_at_call 62; (with_reducible refine (H4.out).mono ?_); rintro e w' ⟨rfl, rfl⟩) | (go_at_call 69; (with_reducible refine (H5.out _).mono ?_); rintro e w' ⟨rfl, rfl⟩) | (go_at_call 99; (with_reducible refine (H6.out _).mono ?_); rintro e w' ⟨rfl, rfl⟩))
                go_roundw
                case rel => exact ⟨acc ++ [cu q], k + 1, by omega, by simp; omega, hlt2, HN.out, by rw [HYN.out], by go_num, by rw [HBF.out], HB.out.alloc hwz2 _⟩
                case measure => simp [intOf]; omega
              · have hd2 : ltB r p = true := by rw [hd1, Bool.false_or] at hor; exact hor
                rw [hd1] at H3
                rw [hd2] at H4
                clear hd1 hd2 hor
                go_wp2_with (first | (go_at_call 98; (with_reducible refine (H1.out).mono ?_); rintro e w' ⟨rfl, rfl⟩) | (go_at_call 60; (with_reducible refine (H2.out).mono ?_); rintro e w' ⟨rfl, rfl⟩) | (go_at_call 59; (with_reducible refine (H3.out _).mono ?_); rintro e w' ⟨rfl, rfl⟩) | (go_at_call 62; (with_reducible refine (H4.out).mono ?_); rintro e w' ⟨rfl, rfl⟩) | (go_at_call 69; (with_reducible refine (H5.out _).mono ?_); rintro e w' ⟨rfl, rfl⟩) | (go_at_call 99; (with_reducible refine (H6.out _).mono ?_); rintro e w' ⟨rfl, rfl⟩))
                go_roundw
                case rel => exact ⟨acc ++ [cu q], k + 1, by omega, by simp; omega, hlt2, HN.out, by rw [HYN.out], by go_num, by rw [HBF.out], HB.out.alloc hwz2 _⟩
                case measure => simp [intOf]; omega
            · have hgv : decide (g ≥ V) = false := decide_eq_false hvg
              have HBF := Lib.hid (show (decide (V = 0) || (acc ++ [cu q]).any (ovD V)) = false by rw [HBN.out, decide_eq_false hvg]; rfl)
              rcases Bool.eq_false_or_eq_true (bDi p) with hd1 | hd1
              · rw [hd1] at H3
                clear hd1 hor
                go_wp2_with (first | (go_at_call 98; (with_reducible refine (H1.out).mono ?_); rintro e w' ⟨rfl, rfl⟩) | (go_at_call 60; (with_reducible refine (H2.out).mono ?_); rintro e w' ⟨rfl, rfl⟩) | (go_at_call 59; (with_reducible refine (H3.out _).mono ?_); rintro e w' ⟨rfl, rfl⟩) | (go_at_call 62; (with_reducible refine (H4.out).mono ?_); rintro e w' ⟨rfl, rfl⟩) | (go_at_call 69; (with_reducible refine (H5.out _).mono ?_); rintro e w' ⟨rfl, rfl⟩) | (go_at_call 99; (with_reducible refine (H6.out _).mono ?_); rintro e w' ⟨rfl, rfl⟩))
                go_roundw
                case rel => exact ⟨acc ++ [cu q], k + 1, by omega, by simp; omega, hlt2, HN.out, by rw [HYN.out], by go_num, by rw [HBF.out], HB.out.alloc hwz2 _⟩
                case measure => simp [intOf]; omega
              · have hd2 : ltB r p = true := by rw [hd1, Bool.false_or] at hor; exact hor
                rw [hd1] at H3
                rw [hd2] at H4
                clear hd1 hd2 hor
                go_wp2_with (first | (go_at_call 98; (with_reducible refine (H1.out).mono ?_); rintro e w' ⟨rfl, rfl⟩) | (go_at_call 60; (with_reducible refine (H2.out).mono ?_); rintro e w' ⟨rfl, rfl⟩) | (go_at_call 59; (with_reducible refine (H3.out _).mono ?_); rintro e w' ⟨rfl, rfl⟩) | (go_at_call 62; (with_reducible refine (H4.out).mono ?_); rintro e w' ⟨rfl, rfl⟩) | (go_at_call 69; (with_reducible refine (H5.out _).mono ?_); rintro e w' ⟨rfl, rfl⟩) | (go_at_call 99; (with_reducible refine (H6.out _).mono ?_); rintro e w' ⟨rfl, rfl⟩))
                go_roundw
                case rel => exact ⟨acc ++ [cu q], k + 1, by omega, by simp; omega, hlt2, HN.out, by rw [HYN.out], by go_num, by rw [HBF.out], HB.out.alloc hwz2 _⟩
                case measure => simp [intOf]; omega
          · have HBF := Lib.hid (show (decide (V = 0) || (acc ++ [cu q]).any (ovD V)) = true by rw [HBN.out]; rfl)
            rcases Bool.eq_false_or_eq_true (bDi p) with hd1 | hd1
            · rw [hd1] at H3
              clear hd1 hor
              go_wp2_with (first | (go_at_call 98; (with_reducible refine (H1.out).mono ?_); rintro e w' ⟨rfl, rfl⟩) | (go_at_call 60; (with_reducible refine (H2.out).mono ?_); rintro e w' ⟨rfl, rfl⟩) | (go_at_call 59; (with_reducible refine (H3.out _).mono ?_); rintro e w' ⟨rfl, rfl⟩) | (go_at_call 62; (with_reducible refine (H4.out).mono ?_); rintro e w' ⟨rfl, rfl⟩) | (go_at_call 69; (with_reducible refine (H5.out _).mono ?_); rintro e w' ⟨rfl, rfl⟩) | (go_at_call 99; (with_reducible refine (H6.out _).mono ?_); rintro e w' ⟨rfl, rfl⟩))
              go_roundw
              case rel => exact ⟨acc ++ [cu q], k + 1, by omega, by simp; omega, hlt2, HN.out, by rw [HYN.out], by go_num, by rw [HBF.out], HB.out.alloc hwz2 _⟩
              case measure => simp [intOf]; omega
            · have hd2 : ltB r p = true := by rw [hd1, Bool.false_or] at hor; exact hor
              rw [hd1] at H3
              rw [hd2] at H4
              clear hd1 hd2 hor
              go_wp2_with (first | (go_at_call 98; (with_reducible refine (H1.out).mono ?_); rintro e w' ⟨rfl, rfl⟩) | (go_at_call 60; (with_reducible refine (H2.out).mono ?_); rintro e w' ⟨rfl, rfl⟩) | (go_at_call 59; (with_reducible refine (H3.out _).mono ?_); rintro e w' ⟨rfl, rfl⟩) | (go_at_call 62; (with_reducible refine (H4.out).mono ?_); rintro e w' ⟨rfl, rfl⟩) | (go_at_call 69; (with_reducible refine (H5.out _).mono ?_); rintro e w' ⟨rfl, rfl⟩) | (go_at_call 99; (with_reducible refine (H6.out _).mono ?_); rintro e w' ⟨rfl, rfl⟩))
              go_roundw
              case rel => exact ⟨acc ++ [cu q], k + 1, by omega, by simp; omega, hlt2, HN.out, by rw [HYN.out], by go_num, by rw [HBF.out], HB.out.alloc hwz2 _⟩
              case measure => simp [intOf]; omega
theorem rbits_any (B S a i : Nat) (t : ByteArray) (ql : List UInt8) (r b : Int) (v : Value) (l : List Sy) (w : World) (hS : Rc w S t (a : Int) r v 0 b) (hL : Sl w B v l) (hB : B ≤ S) (hl : t.size ≤ 100000) (hll : l.length ≤ 1000000) (hi : i ≤ t.size) (hsk : sk t i = i) (hql : ql.length ≤ 100000) :
    Calls Tryz.prog 100 #[.pointer (some ⟨S, 0, none⟩), .string ⟨ql.toArray⟩, .int .i64 (a : Int), .int .i64 (i : Int)] w (RPo B S t w (bkR r t a i ql l)) := by
  by_cases h2 : ql = [50]
  · exact rbits_r2 B S a i t _ ql rfl r b v l w hS hL hB hl hll hi hsk hql _ rfl h2
  by_cases h4 : ql = [52]
  · exact rbits_r4 B S a i t _ ql rfl r b v l w hS hL hB hl hll hi hsk hql _ rfl h4
  by_cases h8 : ql = [56]
  · exact rbits_r8 B S a i t _ ql rfl r b v l w hS hL hB hl hll hi hsk hql _ rfl h8
  by_cases h16 : ql = [49, 54]
  · exact rbits_r16 B S a i t _ ql rfl r b v l w hS hL hB hl hll hi hsk hql _ rfl h16
  exact rbits_bad B S a i t _ ql rfl r b v l w hS hL hB hl hll hi hsk hql _ rfl h2 h4 h8 h16
end Go.Proofs.YtbnldpcbdeeflaaGreatDoor
