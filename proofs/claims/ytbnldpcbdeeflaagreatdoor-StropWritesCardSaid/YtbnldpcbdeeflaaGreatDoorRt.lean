/- The reference's tags. Condition: its block and its list lie in blocks of the call's own. -/
import Derived.Test.YtbnldpcbdeeflaaGreatDoorRd
import Derived.BigRegion
import Derived.Laws.IdiomStrings
namespace Go.Proofs.YtbnldpcbdeeflaaGreatDoor
open Go.ChangeShapes Go.WideShapes Go.ChangeAt Go.RowKit

/-- What the reference's step leaves, where the program's leaves R. -/
def RPo (B S : Nat) (t : ByteArray) (w : World) (R : Rs) (x : Ending) (w' : World) : Prop :=
  x = .returned (.tuple #[]) ∧ (∃ (a r e b : Int) (v : Value) (l : List Sy), Rc w' S t a r v e b ∧ Sl w' B v l ∧ (R.c = 0 → e = 0 ∧ a = R.a ∧ r = R.r ∧ l = R.l) ∧ (R.c ≠ 0 → e = R.c ∧ b = R.p)) ∧ Below B w w'
theorem sd_ch (r c : Int) : bSd (chB r c) = (ltB r c || bDi c) := by
  cases hl : ltB r c
  · unfold bSd
    rw [no_ch hl, di_chB]
  · rw [lo_ch hl]
    unfold bSd
    have h : bSm (loA c) = true := by
      unfold ltB at hl
      unfold loA
      cases hc : bCa c
      · rw [hc, Bool.and_false, Bool.or_false] at hl
        rw [if_neg (by decide)]; exact hl
      · have h1 : 65 ≤ c ∧ c ≤ 90 := of_decide_eq_true hc
        rw [if_pos rfl]
        exact decide_eq_true (by omega)
    rw [h, Bool.true_or, Bool.true_or]
theorem lo_chs {r c : Int} (h : (ltB r c || bDi c) = true) : loA c = chB r c := by
  cases hl : ltB r c
  · rw [hl, Bool.false_or] at h
    rw [chB_di h]
    have h1 : 48 ≤ c ∧ c ≤ 57 := of_decide_eq_true h
    unfold loA
    rw [show bCa c = false from decide_eq_false (by omega), if_neg (by decide)]
  · exact (lo_ch hl).symm
theorem lo_bd {c : Int} (h0 : 0 ≤ c) (h1 : c ≤ 255) : 0 ≤ loA c ∧ loA c ≤ 255 := by
  unfold loA
  split
  · rename_i h
    have h1 : 65 ≤ c ∧ c ≤ 90 := of_decide_eq_true h
    omega
  · exact ⟨h0, h1⟩
/-- One byte as a string. -/
theorem conv_one (q : Int) (h0 : 0 ≤ q) (h1 : q ≤ 255) (w : World) : (convert 52 9 (.slice (some ⟨w.heap.size, 0, none⟩) 1 1)).run Tryz.prog (w.alloc (.cells #[.int .u8 q] 5)) = .ok (.string ⟨#[cu q]⟩) (w.alloc (.cells #[.int .u8 q] 5)) := by
  have hq : ((cu q).toNat : Int) = q := by
    unfold cu
    rw [UInt8.toNat_ofNat']
    omega
  refine run_convert_bytes_back (P := Tryz.prog) (w.alloc (.cells #[.int .u8 q] 5)) 52 9 5 ⟨w.heap.size, 0, none⟩ 1 [cu q] Tryz.underlying52 Tryz.underlying5 Tryz.underlying9 ?_
  intro j hj
  match j, hj with
  | 0, _ =>
    simp only [List.getElem_cons_zero, hq]
    exact Own.cell (Own.new w 5 [.int .u8 q]) 0
set_option maxRecDepth 100000 in
set_option maxHeartbeats 4000000 in
theorem rtag_any (B S a : Nat) (t : ByteArray) (r b : Int) (v : Value) (l : List Sy) (w : World) (hS : Rc w S t (a : Int) r v 0 b) (hL : Sl w B v l) (hB : B ≤ S) (hl : t.size ≤ 100000) (hll : l.length ≤ 1000000) (ha : a ≤ t.size) (hsk : sk t a = a) (x : ByteArray) (z : Nat) (hx : (⟨(rnF bSd bSd0 r t a).1.toArray⟩ : ByteArray) = x) (hz : (rnF bSd bSd0 r t a).2 = z) :
    Calls Tryz.prog 63 #[.pointer (some ⟨S, 0, none⟩)] w (RPo B S t w (shR r (a : Int) (z : Int) 2 x l)) := by
  have hlt := hS.lt
  have c1 := hS.c1
  have HC : Hid (∀ W, Below w.heap.size w W → Rc W S t (a : Int) r v 0 b ∧ Sl W B v l) := Lib.hid (fun W hb => ⟨hS.kept hb, hS.sl hL hb⟩)
  have HA := Lib.hid ha
  have HSK := Lib.hid hsk
  have HX := Lib.hid hx
  have HZ := Lib.hid hz
  obtain ⟨RR, hRR⟩ : ∃ R, shR r (a : Int) (z : Int) 2 x l = R := ⟨_, rfl⟩
  rw [hRR]
  have HRR := Lib.hid hRR
  clear hS hL hsk hx hz ha hRR
  go_enter Tryz.func63, Tryz.ntmps63
  go_upto_region 0 with fail
  go_region
  go_wp2_with fail
  go_loopw [3, 4] (fun v3 v4 wr => ∃ (acc : List UInt8) (e : Nat), a ≤ e ∧ acc.length ≤ e ∧ e ≤ t.size ∧ (acc ++ (rn bSd bSd0 r t (sk t e) e).1, (rn bSd bSd0 r t (sk t e) e).2) = rnF bSd bSd0 r t a ∧ v3 = .int .i64 e ∧ v4 = .string ⟨acc.toArray⟩ ∧ Below w.heap.size w wr) (fun v3 _ _ => t.size - (intOf v3).toNat)
  case atStart => exact ⟨[], a, Nat.le_refl _, Nat.zero_le _, HA.out, by unfold rnF; rfl, rfl, rfl, (Below.refl _ w).drew⟩
  case round =>
    obtain ⟨acc, e, hie, hal, he, hrn, rfl, rfl, hb⟩ := hrel
    have hks := sk_ge t e
    have hkl := sk_le he
    have hRc := (HC.out wr hb).1
    have c0 := hRc.c0
    have H1 := Lib.hid (behind_any t S e wr c0 hl (by omega))
    have H2 := Lib.hid (at_any t S (sk t e) wr c0 hl (by omega))
    have HR := Lib.hid hrn
    obtain ⟨k, hk⟩ : ∃ k, sk t e = k := ⟨_, rfl⟩
    have HK := Lib.hid hk
    rw [hk] at H1 H2 hks hkl
    have hp := pk_bd t k
    obtain ⟨p, hpe⟩ : ∃ p, pk t k = p := ⟨_, rfl⟩
    have HP := Lib.hid hpe
    rw [hpe] at hp H2
    have H3 := Lib.hid (fun w => rb_di p w hp.1 hp.2)
    have H4 := Lib.hid (letter_any S r p wr hRc.c2 hp.1 hp.2)
    have hal2 : acc.length ≤ 100000 := by omega
    have HSD := Lib.hid (sd_ch r p)
    have hwz := hb.size
    have HB := Lib.hid hb
    clear hrn hk hpe hRc hb
    cases hd : (ltB r p || bDi p)
    · have hsd : bSd (ch r t (sk t e)) = false := by show bSd (chB r (pk t (sk t e))) = false; rw [HK.out, HP.out, HSD.out]; exact hd
      have hN : rnF bSd bSd0 r t a = (acc, e) := by rw [← HR.out, rn_no hsd, List.append_nil]
      have hxe : x = ⟨acc.toArray⟩ := by rw [← HX.out, hN]
      have hze : z = e := by rw [← HZ.out, hN]
      rw [Bool.or_eq_false_iff] at hd
      obtain ⟨hd1, hd2⟩ := hd
      rw [hd1] at H4
      rw [hd2] at H3
      subst hxe hze
      have hSr := (HC.out wr HB.out).1
      have hLr := (HC.out wr HB.out).2
      have hbs := Rc.lt hSr
      by_cases h40 : 40 < acc.length
      · have hRe : RR = ⟨r, (a : Int), l, (a : Int), 3⟩ := by rw [← HRR.out]; exact if_pos (by show 40 < acc.toArray.size; rw [List.size_toArray]; exact h40)
        subst hRe
        have h40b : decide ((acc.length : Int) > 40) = true := decide_eq_true (by omega)
        have HFA := Lib.hid (fail_new S t (a : Int) r v b 3 (a : Int) wr hSr)
        have HLR := Lib.hid hLr
        have HSR := Lib.hid hSr
        clear hsd hN hd1 hd2 hSr hLr
        go_wp2_with (first | (go_at_call 98; (with_reducible refine (H1.out).mono ?_); rintro e w' ⟨rfl, rfl⟩) | (go_at_call 60; (with_reducible refine (H2.out).mono ?_); rintro e w' ⟨rfl, rfl⟩) | (go_at_call 59; (with_reducible refine (H3.out _).mono ?_); rintro e w' ⟨rfl, rfl⟩) | (go_at_call 62; (with_reducible refine (H4.out).mono ?_); rintro e w' ⟨rfl, rfl⟩) | (go_at_call 54; (with_reducible refine HFA.out.mono ?_); (rintro e w5 ⟨rfl, hS5, hg5⟩); (have HADD := Lib.hid (radd_any B S t (a : Int) r v 3 (a : Int) 2 (a : Int) (z : Int) ⟨acc.toArray⟩ l w5 hS5 (HSR.out.slgb HLR.out hg5) hB hll))) | (go_at_call 58; (with_reducible refine HADD.out.mono ?_); (rintro e w6 ⟨rfl, ⟨v6, hS6, hL6⟩, hb6, _⟩)))
        go_returns
        exact ⟨rfl, ⟨_, _, _, _, v6, _, hS6, hL6, (fun h => absurd h (show ¬ ((3 : Int) = 0) by decide)), (fun _ => ⟨rfl, rfl⟩)⟩, ((HB.out.mono (by omega)).trans (hg5.below hB (by omega))).trans hb6⟩
      · have hRe : RR = ⟨r, (z : Int), l ++ [(2, ⟨acc.toArray⟩, (a : Int))], 0, 0⟩ := by rw [← HRR.out]; exact if_neg (by show ¬ 40 < acc.toArray.size; rw [List.size_toArray]; exact h40)
        subst hRe
        have h40b : decide ((acc.length : Int) > 40) = false := decide_eq_false (by omega)
        have HADD := Lib.hid (radd_any B S t (a : Int) r v 0 b 2 (a : Int) (z : Int) ⟨acc.toArray⟩ l wr hSr hLr hB hll)
        clear hsd hN hd1 hd2 hSr hLr
        go_wp2_with (first | (go_at_call 98; (with_reducible refine (H1.out).mono ?_); rintro e w' ⟨rfl, rfl⟩) | (go_at_call 60; (with_reducible refine (H2.out).mono ?_); rintro e w' ⟨rfl, rfl⟩) | (go_at_call 59; (with_reducible refine (H3.out _).mono ?_); rintro e w' ⟨rfl, rfl⟩) | (go_at_call 62; (with_reducible refine (H4.out).mono ?_); rintro e w' ⟨rfl, rfl⟩) | (go_at_call 58; (with_reducible refine HADD.out.mono ?_); (rintro e w6 ⟨rfl, ⟨v6, hS6, hL6⟩, hb6, _⟩)))
        go_returns
        exact ⟨rfl, ⟨_, _, _, _, v6, _, hS6, hL6, (fun _ => ⟨rfl, rfl, rfl, rfl⟩), (fun h => absurd rfl h)⟩, (HB.out.mono (by omega)).trans hb6⟩
    · have hlo := lo_bd hp.1 hp.2
      have HLO := Lib.hid (fun w => rb_lo p w hp.1 hp.2)
      have HLC := Lib.hid (show loA p = ch r t k by rw [lo_chs hd, ← HP.out]; rfl)
      obtain ⟨q, hq⟩ : ∃ q, loA p = q := ⟨_, rfl⟩
      have HCV := fun W => conv_one q (by rw [← hq]; exact hlo.1) (by rw [← hq]; exact hlo.2) W
      rw [hq] at HLO hlo HLC
      have hlt2 : k < t.size := by
        have : bSd (ch r t k) = true := by show bSd (chB r (pk t k)) = true; rw [HP.out, HSD.out]; exact hd
        exact ch_lt bSd0 this
      have hpi := (pk_in hlt2).symm
      rw [HP.out] at hpi
      have HN := Lib.hid (show ((acc ++ [cu q]) ++ (rn bSd bSd0 r t (sk t (k + 1)) (k + 1)).1, (rn bSd bSd0 r t (sk t (k + 1)) (k + 1)).2) = rnF bSd bSd0 r t a by
        rw [← HR.out, HK.out, rn_yes (f := bSd) (hf := bSd0) (r := r) (t := t) (i := k) (e := e) (by show bSd (chB r (pk t k)) = true; rw [HP.out, HSD.out]; exact hd), ← HLC.out, List.append_assoc]; rfl)
      cases h1 : ltB r p
      · rw [h1, Bool.false_or] at hd
        rw [h1] at H4
        rw [hd] at H3
        clear h1 hd hq
        go_wp2_with (first | (go_at_call 98; (with_reducible refine (H1.out).mono ?_); rintro e w' ⟨rfl, rfl⟩) | (go_at_call 60; (with_reducible refine (H2.out).mono ?_); rintro e w' ⟨rfl, rfl⟩) | (go_at_call 59; (with_reducible refine (H3.out _).mono ?_); rintro e w' ⟨rfl, rfl⟩) | (go_at_call 62; (with_reducible refine (H4.out).mono ?_); rintro e w' ⟨rfl, rfl⟩) | (go_at_call 69; (with_reducible refine (HLO.out _).mono ?_); rintro e w' ⟨rfl, rfl⟩))
        go_roundw
        case rel => exact ⟨acc ++ [cu q], k + 1, by omega, by simp; omega, hlt2, HN.out, by go_num, by rw [← app_one], HB.out.alloc hwz _⟩
        case measure => simp [intOf]; omega
      · rw [h1] at H4
        clear h1 hd hq
        go_wp2_with (first | (go_at_call 98; (with_reducible refine (H1.out).mono ?_); rintro e w' ⟨rfl, rfl⟩) | (go_at_call 60; (with_reducible refine (H2.out).mono ?_); rintro e w' ⟨rfl, rfl⟩) | (go_at_call 59; (with_reducible refine (H3.out _).mono ?_); rintro e w' ⟨rfl, rfl⟩) | (go_at_call 62; (with_reducible refine (H4.out).mono ?_); rintro e w' ⟨rfl, rfl⟩) | (go_at_call 69; (with_reducible refine (HLO.out _).mono ?_); rintro e w' ⟨rfl, rfl⟩))
        go_roundw
        case rel => exact ⟨acc ++ [cu q], k + 1, by omega, by simp; omega, hlt2, HN.out, by go_num, by rw [← app_one], HB.out.alloc hwz _⟩
        case measure => simp [intOf]; omega
end Go.Proofs.YtbnldpcbdeeflaaGreatDoor
