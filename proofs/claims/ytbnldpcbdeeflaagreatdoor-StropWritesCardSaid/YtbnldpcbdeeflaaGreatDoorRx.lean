/- The reference's strings and formats. Condition: its block and its list lie in blocks of the call's own. -/
import Derived.Test.YtbnldpcbdeeflaaGreatDoorRt
namespace Go.Proofs.YtbnldpcbdeeflaaGreatDoor
open Go.ChangeShapes Go.WideShapes Go.ChangeAt Go.RowKit

theorem ra_eq (s : List UInt8) : Lib.replaceAll s [34, 34] [34] = Lib.replaceK [34, 34] [34] (Lib.count s [34, 34]) s := by
  unfold Lib.replaceAll Lib.replace
  rw [if_neg (by decide)]
  unfold Lib.replaceNum
  rw [if_pos (Or.inl (by decide))]
theorem ra_nil : Lib.replaceAll [] [34, 34] [34] = [] := by decide
theorem ra_one (c : UInt8) (l : List UInt8) (h : c ≠ 34) : Lib.replaceAll (c :: l) [34, 34] [34] = c :: Lib.replaceAll l [34, 34] [34] := by
  rw [ra_eq, ra_eq]
  have hp : ([34, 34] : List UInt8).isPrefixOf (c :: l) = false := by
    unfold List.isPrefixOf
    rw [show ((34 : UInt8) == c) = false from beq_eq_false_iff_ne.2 (Ne.symm h)]
    rfl
  have hge := Lib.index_ge l [34, 34]
  have hi : Lib.index (c :: l) [34, 34] = if Lib.index l [34, 34] == -1 then -1 else Lib.index l [34, 34] + 1 := by
    rw [Lib.index, hp, if_neg (by decide)]
  by_cases h1 : Lib.index l [34, 34] = -1
  · rw [h1] at hi
    rw [Lib.count_miss h1, Lib.count_miss (s := c :: l) (by rw [hi]; rfl)]
    rfl
  · obtain ⟨i, hn⟩ : ∃ i : Nat, Lib.index l [34, 34] = i := ⟨(Lib.index l [34, 34]).toNat, by omega⟩
    have hi2 : Lib.index (c :: l) [34, 34] = ((i + 1 : Nat) : Int) := by
      rw [hi, if_neg (by rw [beq_iff_eq]; exact h1), hn]
      omega
    have hd : (c :: l).drop (i + 1 + ([34, 34] : List UInt8).length) = l.drop (i + ([34, 34] : List UInt8).length) := rfl
    rw [Lib.count_hit (by decide) hi2, Lib.count_hit (by decide) hn, hd, Nat.add_comm 1, Lib.replaceK_hit _ _ _ _ _ hi2, Lib.replaceK_hit _ _ _ _ _ hn, hd]
    rfl
theorem ra_two (l : List UInt8) : Lib.replaceAll (34 :: 34 :: l) [34, 34] [34] = 34 :: Lib.replaceAll l [34, 34] [34] := by
  rw [ra_eq, ra_eq]
  have hi : Lib.index (34 :: 34 :: l) [34, 34] = ((0 : Nat) : Int) := by
    rw [Lib.index, if_pos (by simp [List.isPrefixOf])]
    rfl
  rw [Lib.count_hit (by decide) hi, Nat.add_comm 1, Lib.replaceK_hit _ _ _ _ _ hi]
  rfl
/-- A string's characters from a place on. -/
def quA (t : ByteArray) (a : Int) (i : Nat) : List UInt8 :=
  if h : (litF t i a).2 = 0 then (if pk t i = 34 then (if pk t (i + 1) = 34 then 34 :: quA t a (i + 1 + 1) else []) else cu (pk t i) :: quA t a (i + 1)) else []
termination_by t.size - i
decreasing_by
  all_goals
    have := lit_lt h
    omega
theorem drop_pk {t : ByteArray} {i : Nat} (h : i < t.size) : t.data.toList.drop i = cu (pk t i) :: t.data.toList.drop (i + 1) := by
  rw [cu_in h, List.drop_eq_getElem_cons (by rw [Array.length_toList]; exact h)]
  rfl
theorem cu_34 {c : Int} (h0 : 0 ≤ c) (h1 : c ≤ 255) : (cu c = 34) ↔ c = 34 := by
  constructor
  · intro h
    have := cu_nat h0 h1
    rw [h] at this
    have h2 : (34 : UInt8).toNat = 34 := rfl
    omega
  · intro h; subst h; rfl
theorem qu_ra (t : ByteArray) (a : Int) (i : Nat) (h : (quE t a i).2.1 = 0) : quA t a i = Lib.replaceAll (List.take ((quE t a i).2.2 - i) (List.drop i t.data.toList)) [34, 34] [34] := by
  by_cases hl : (litF t i a).2 = 0
  · have hlt := lit_lt hl
    by_cases h34 : pk t i = 34
    · by_cases h35 : pk t (i + 1) = 34
      · have hq : quE t a i = quE t a (i + 1 + 1) := by rw [quE, dif_pos hl, if_pos h34, if_pos h35]
        have ha : quA t a i = 34 :: quA t a (i + 1 + 1) := by rw [quA, dif_pos hl, if_pos h34, if_pos h35]
        rw [hq] at h ⊢
        have hu := qu_up t a (i + 1 + 1) h
        have hlt2 : i + 1 < t.size := lt_of_pk h35 (by decide)
        rw [ha, qu_ra t a (i + 1 + 1) h, drop_pk hlt, drop_pk hlt2, h34, h35]
        obtain ⟨n, hn⟩ : ∃ n, (quE t a (i + 1 + 1)).2.2 = i + 1 + 1 + n := ⟨_, (Nat.add_sub_cancel' hu.1).symm⟩
        rw [hn, show i + 1 + 1 + n - (i + 1 + 1) = n by omega, show i + 1 + 1 + n - i = n + 1 + 1 by omega, List.take_succ_cons, List.take_succ_cons]
        exact (ra_two _).symm
      · have hq : quE t a i = (0, 0, i) := by rw [quE, dif_pos hl, if_pos h34, if_neg h35]
        have ha : quA t a i = [] := by rw [quA, dif_pos hl, if_pos h34, if_neg h35]
        rw [ha, hq]
        simp only [Nat.sub_self, List.take_zero]
        exact ra_nil.symm
    · have hq : quE t a i = quE t a (i + 1) := by rw [quE, dif_pos hl, if_neg h34]
      have ha : quA t a i = cu (pk t i) :: quA t a (i + 1) := by rw [quA, dif_pos hl, if_neg h34]
      rw [hq] at h ⊢
      have hu := qu_up t a (i + 1) h
      have hb := pk_bd t i
      rw [ha, qu_ra t a (i + 1) h, drop_pk hlt]
      obtain ⟨n, hn⟩ : ∃ n, (quE t a (i + 1)).2.2 = i + 1 + n := ⟨_, (Nat.add_sub_cancel' hu.1).symm⟩
      rw [hn, show i + 1 + n - (i + 1) = n by omega, show i + 1 + n - i = n + 1 by omega, List.take_succ_cons]
      exact (ra_one _ _ (fun e => h34 ((cu_34 hb.1 hb.2).1 e))).symm
  · have hq : quE t a i = ((litF t i a).1, (litF t i a).2, i) := by rw [quE, dif_neg hl]
    rw [hq] at h
    exact absurd h hl
termination_by t.size - i
theorem lit_out {t : ByteArray} {i : Nat} {a : Int} (h : t.size ≤ i) : litF t i a = (a, 16) := by unfold litF; rw [if_neg (by omega)]
theorem lit_bad {t : ByteArray} {i : Nat} {a : Int} (h : i < t.size) (k : bTx (pk t i) = false) : litF t i a = ((i : Int), 2) := by unfold litF; rw [if_pos h, if_neg (by rw [k]; decide)]
theorem lit_nl {t : ByteArray} {i : Nat} {a : Int} (h : i < t.size) (k : pk t i = 9 ∨ pk t i = 10) : litF t i a = ((i : Int), 9) := by
  unfold litF
  rw [if_pos h]
  rcases k with k | k <;> rw [k] <;> rfl
theorem lit_okk {t : ByteArray} {i : Nat} {a : Int} (h : i < t.size) (k : bTx (pk t i) = true) (n9 : pk t i ≠ 9) (n10 : pk t i ≠ 10) : litF t i a = (0, 0) := by
  unfold litF
  rw [if_pos h, if_pos k]
  have hp : bPr (pk t i) = true := by
    unfold bTx at k
    cases hb : bPr (pk t i)
    · rw [hb, Bool.false_or] at k
      have h1 : pk t i = 9 ∨ pk t i = 10 ∨ pk t i = 32 := of_decide_eq_true k
      rcases h1 with h1 | h1 | h1
      · exact absurd h1 n9
      · exact absurd h1 n10
      · rw [h1] at hb; cases hb
    · rfl
  rw [if_pos hp]
set_option maxRecDepth 100000 in
set_option maxHeartbeats 8000000 in
theorem rformat_any (B S a : Nat) (t : ByteArray) (r b : Int) (v : Value) (l : List Sy) (w : World) (hS : Rc w S t (a : Int) r v 0 b) (hL : Sl w B v l) (hB : B ≤ S) (hl : t.size ≤ 100000) (hll : l.length ≤ 1000000) (ha : a < t.size) :
    Calls Tryz.prog 65 #[.pointer (some ⟨S, 0, none⟩)] w (RPo B S t w (fmR r t a l)) := by
  have hlt := hS.lt
  have c1 := hS.c1
  have HC : Hid (∀ W, Below w.heap.size w W → Rc W S t (a : Int) r v 0 b ∧ Sl W B v l) := Lib.hid (fun W hb => ⟨hS.kept hb, hS.sl hL hb⟩)
  have HA := Lib.hid ha
  obtain ⟨RR, hRR⟩ : ∃ R, fmR r t a l = R := ⟨_, rfl⟩
  rw [hRR]
  have HRR := Lib.hid hRR
  clear hS hL hRR
  go_enter Tryz.func65, Tryz.ntmps65
  go_upto_region 0 with fail
  go_region
  go_wp2_with fail
  have HL0 := Lib.hid hl
  clear hl
  go_loopw [3, 4] (fun v3 v4 wr => ∃ (e : Nat) (wi : Bool), a + 1 ≤ e ∧ e ≤ t.size ∧ fmE t (a : Int) e wi = fmE t (a : Int) (a + 1) false ∧ v3 = .int .i64 e ∧ v4 = .bool wi ∧ Below w.heap.size w wr) (fun v3 _ _ => t.size - (intOf v3).toNat)
  case atStart => exact ⟨a + 1, false, Nat.le_refl _, HA.out, rfl, by go_num, rfl, (Below.refl _ w).drew⟩
  case round =>
    obtain ⟨e, wi, hie, he, hrn, rfl, rfl, hb⟩ := hrel
    have hl := HL0.out
    have hSr := (HC.out wr hb).1
    have hLr := (HC.out wr hb).2
    have c0 := hSr.c0
    have hwz := hb.size
    have HSR := Lib.hid hSr
    have HLR := Lib.hid hLr
    have HB := Lib.hid hb
    have HR := Lib.hid hrn
    clear hSr hLr hb hrn
    by_cases hlt2 : e < t.size
    · have hp := pk_bd t e
      have hpi := (pk_in hlt2).symm
      have hei : decide ((e : Int) < (t.size : Int)) = true := decide_eq_true (by omega)
      obtain ⟨p, hpe⟩ : ∃ p, pk t e = p := ⟨_, rfl⟩
      have HP := Lib.hid hpe
      rw [hpe] at hp hpi
      have H3 := Lib.hid (fun w => rb_tx p w hp.1 hp.2)
      have HLT := Lib.hid hlt2
      clear hpe
      by_cases h36 : p = 36 ∧ wi = false
      · obtain ⟨h36, hw0⟩ := h36
        subst h36 hw0
        have hRe : RR = ⟨r, (e : Int) + 1, l ++ [(7, t.extract (a + 1) e, (a : Int))], 0, 0⟩ := by rw [← HRR.out]; exact fmR_ok (by rw [← HR.out, fm_end HP.out])
        subst hRe
        have HADD := Lib.hid (radd_any B S t (a : Int) r v 0 b 7 (a : Int) ((e : Int) + 1) (t.extract (a + 1) e) l wr HSR.out HLR.out hB hll)
        go_wp2_with (first | (go_at_call 58; (with_reducible refine HADD.out.mono ?_); (rintro e6 w6 ⟨rfl, ⟨v6, hS6, hL6⟩, hb6, _⟩)))
        go_returns
        exact ⟨rfl, ⟨_, _, _, _, v6, _, hS6, hL6, (fun _ => ⟨rfl, rfl, rfl, rfl⟩), (fun h => absurd rfl h)⟩, (HB.out.mono (by omega)).trans hb6⟩
      · have HN36 := Lib.hid (show ¬ (wi = false ∧ pk t e = 36) by rw [HP.out]; exact fun h => h36 ⟨h.2, h.1⟩)
        cases htx : bTx p
        · have n36 : p ≠ 36 := fun h => by rw [h] at htx; cases htx
          have k36 : (p == 36) = false := by rw [beq_eq_false_iff_ne]; exact n36
          rw [htx] at H3
          have HN := HN36
          have HLI := Lib.hid (lit_bad (a := (a : Int)) HLT.out (by rw [HP.out]; exact htx))
          clear htx n36 h36
          have hRe : RR = ⟨r, (a : Int), l, (e : Int), 2⟩ := by rw [← HRR.out]; exact fmR_bad (by rw [← HR.out, fm_bad (fun h => HN.out h) (by rw [HLI.out]; exact (show (2 : Int) ≠ 0 by decide)), HLI.out]) (by decide)
          subst hRe
          have HFA := Lib.hid (fail_new S t (a : Int) r v b 2 (e : Int) wr HSR.out)
          go_wp2_with (first | (go_at_call 53; (with_reducible refine (H3.out _).mono ?_); rintro e w' ⟨rfl, rfl⟩) | (go_at_call 54; (with_reducible refine HFA.out.mono ?_); (rintro e5 w5 ⟨rfl, hS5, hg5⟩)))
          go_returns
          exact ⟨rfl, ⟨_, _, _, _, v, l, hS5, HSR.out.slgb HLR.out hg5, (fun h => absurd h (show ¬ ((2 : Int) = 0) by decide)), (fun _ => ⟨rfl, rfl⟩)⟩, (HB.out.mono (by omega)).trans (hg5.below hB (by omega))⟩
        · by_cases h9 : p = 9 ∨ p = 10
          · have HN := HN36
            have HLI := Lib.hid (lit_nl (a := (a : Int)) HLT.out (by rw [HP.out]; exact h9))
            rw [htx] at H3
            clear htx h36
            rcases h9 with rfl | rfl
            all_goals
              have hRe : RR = ⟨r, (a : Int), l, (e : Int), 9⟩ := by rw [← HRR.out]; exact fmR_bad (by rw [← HR.out, fm_bad (fun h => HN.out h) (by rw [HLI.out]; exact (show (9 : Int) ≠ 0 by decide)), HLI.out]) (by decide)
              subst hRe
              have HFA := Lib.hid (fail_new S t (a : Int) r v b 9 (e : Int) wr HSR.out)
              go_wp2_with (first | (go_at_call 53; (with_reducible refine (H3.out _).mono ?_); rintro e w' ⟨rfl, rfl⟩) | (go_at_call 54; (with_reducible refine HFA.out.mono ?_); (rintro e5 w5 ⟨rfl, hS5, hg5⟩)))
              go_returns
              exact ⟨rfl, ⟨_, _, _, _, v, l, hS5, HSR.out.slgb HLR.out hg5, (fun h => absurd h (show ¬ ((9 : Int) = 0) by decide)), (fun _ => ⟨rfl, rfl⟩)⟩, (HB.out.mono (by omega)).trans (hg5.below hB (by omega))⟩
          · have n9 : p ≠ 9 := fun h => h9 (Or.inl h)
            have n10 : p ≠ 10 := fun h => h9 (Or.inr h)
            have k9 : (p == 9) = false := by rw [beq_eq_false_iff_ne]; exact n9
            have k10 : (p == 10) = false := by rw [beq_eq_false_iff_ne]; exact n10
            have hlo : (litF t e (a : Int)).2 = 0 := by rw [lit_okk HLT.out (by rw [HP.out]; exact htx) (by rw [HP.out]; exact n9) (by rw [HP.out]; exact n10)]
            have HG := Lib.hid (show fmE t (a : Int) (e + 1) (if p = 34 then !wi else wi) = fmE t (a : Int) (a + 1) false by rw [← HR.out, fm_go HN36.out hlo, HP.out])
            rw [htx] at H3
            clear htx hlo n9 n10 h9
            by_cases h34 : p = 34
            · subst h34
              have HN := Lib.hid (show fmE t (a : Int) (e + 1) (!wi) = fmE t (a : Int) (a + 1) false from HG.out)
              clear h36
              cases wi
              · go_wp2_with (first | (go_at_call 53; (with_reducible refine (H3.out _).mono ?_); rintro e w' ⟨rfl, rfl⟩))
                go_roundw
                case rel => exact ⟨e + 1, true, by omega, HLT.out, HN.out, by go_num, rfl, HB.out⟩
                case measure => have := HLT.out; simp [intOf]; omega
              · go_wp2_with (first | (go_at_call 53; (with_reducible refine (H3.out _).mono ?_); rintro e w' ⟨rfl, rfl⟩))
                go_roundw
                case rel => exact ⟨e + 1, false, by omega, HLT.out, HN.out, by go_num, rfl, HB.out⟩
                case measure => have := HLT.out; simp [intOf]; omega
            · have HN := Lib.hid (show fmE t (a : Int) (e + 1) wi = fmE t (a : Int) (a + 1) false by rw [← HG.out, if_neg h34])
              have n34 := h34
              have k34 : (p == 34) = false := by rw [beq_eq_false_iff_ne]; exact n34
              clear h34 n34
              by_cases h36b : p = 36
              · subst h36b
                cases wi
                · exact absurd ⟨rfl, rfl⟩ h36
                · clear h36
                  go_wp2_with (first | (go_at_call 53; (with_reducible refine (H3.out _).mono ?_); rintro e w' ⟨rfl, rfl⟩))
                  go_roundw
                  case rel => exact ⟨e + 1, true, by omega, HLT.out, HN.out, by go_num, rfl, HB.out⟩
                  case measure => have := HLT.out; simp [intOf]; omega
              · have n36 := h36b
                have k36 : (p == 36) = false := by rw [beq_eq_false_iff_ne]; exact n36
                clear h36 h36b n36
                cases wi
                · go_wp2_with (first | (go_at_call 53; (with_reducible refine (H3.out _).mono ?_); rintro e w' ⟨rfl, rfl⟩))
                  go_roundw
                  case rel => exact ⟨e + 1, false, by omega, HLT.out, HN.out, by go_num, rfl, HB.out⟩
                  case measure => have := HLT.out; simp [intOf]; omega
                · go_wp2_with (first | (go_at_call 53; (with_reducible refine (H3.out _).mono ?_); rintro e w' ⟨rfl, rfl⟩))
                  go_roundw
                  case rel => exact ⟨e + 1, true, by omega, HLT.out, HN.out, by go_num, rfl, HB.out⟩
                  case measure => have := HLT.out; simp [intOf]; omega
    · have hge : t.size ≤ e := by omega
      have hei : decide ((e : Int) < (t.size : Int)) = false := decide_eq_false (by omega)
      have HN := Lib.hid (show ¬ (wi = false ∧ pk t e = 36) by rw [pk_out hge]; exact fun h => by cases h.2)
      have HLI := Lib.hid (lit_out (a := (a : Int)) hge)
      have hRe : RR = ⟨r, (a : Int), l, (a : Int), 16⟩ := by rw [← HRR.out]; exact fmR_bad (by rw [← HR.out, fm_bad (fun h => HN.out h) (by rw [HLI.out]; exact (show (16 : Int) ≠ 0 by decide)), HLI.out]) (by decide)
      subst hRe
      have HFA := Lib.hid (fail_new S t (a : Int) r v b 16 (a : Int) wr HSR.out)
      go_wp2_with (first | (go_at_call 53; (with_reducible refine (H3.out _).mono ?_); rintro e w' ⟨rfl, rfl⟩) | (go_at_call 54; (with_reducible refine HFA.out.mono ?_); (rintro e5 w5 ⟨rfl, hS5, hg5⟩)))
      go_returns
      exact ⟨rfl, ⟨_, _, _, _, v, l, hS5, HSR.out.slgb HLR.out hg5, (fun h => absurd h (show ¬ ((16 : Int) = 0) by decide)), (fun _ => ⟨rfl, rfl⟩)⟩, (HB.out.mono (by omega)).trans (hg5.below hB (by omega))⟩
set_option maxRecDepth 100000 in
set_option maxHeartbeats 8000000 in
theorem rtext_any (B S a : Nat) (t : ByteArray) (r b : Int) (v : Value) (l : List Sy) (w : World) (hS : Rc w S t (a : Int) r v 0 b) (hL : Sl w B v l) (hB : B ≤ S) (hl : t.size ≤ 100000) (hll : l.length ≤ 1000000) (ha : a < t.size) :
    Calls Tryz.prog 64 #[.pointer (some ⟨S, 0, none⟩)] w (RPo B S t w (quR r t a l)) := by
  have hlt := hS.lt
  have c1 := hS.c1
  have HC : Hid (∀ W, Below w.heap.size w W → Rc W S t (a : Int) r v 0 b ∧ Sl W B v l) := Lib.hid (fun W hb => ⟨hS.kept hb, hS.sl hL hb⟩)
  have HA := Lib.hid ha
  obtain ⟨RR, hRR⟩ : ∃ R, quR r t a l = R := ⟨_, rfl⟩
  rw [hRR]
  have HRR := Lib.hid hRR
  clear hS hL hRR
  go_enter Tryz.func64, Tryz.ntmps64
  go_upto_region 0 with fail
  go_region
  go_wp2_with fail
  have HL0 := Lib.hid hl
  clear hl
  go_loopw [3, 4] (fun v3 v4 wr => ∃ (e : Nat) (acc : List UInt8), a + 1 ≤ e ∧ e ≤ t.size ∧ acc.length ≤ e ∧ quE t (a : Int) e = quE t (a : Int) (a + 1) ∧ acc ++ quA t (a : Int) e = quA t (a : Int) (a + 1) ∧ v3 = .int .i64 e ∧ v4 = .string ⟨acc.toArray⟩ ∧ Below w.heap.size w wr) (fun v3 _ _ => t.size - (intOf v3).toNat)
  case atStart => exact ⟨a + 1, [], Nat.le_refl _, HA.out, Nat.zero_le _, rfl, rfl, by go_num, rfl, (Below.refl _ w).drew⟩
  case round =>
    obtain ⟨e, acc, hie, he, hal, hrn, hac, rfl, rfl, hb⟩ := hrel
    have HAC := Lib.hid hac
    clear hac
    have hl := HL0.out
    have hSr := (HC.out wr hb).1
    have hLr := (HC.out wr hb).2
    have c0 := hSr.c0
    have hwz := hb.size
    have HSR := Lib.hid hSr
    have HLR := Lib.hid hLr
    have HB := Lib.hid hb
    have HR := Lib.hid hrn
    clear hSr hLr hb hrn
    have hal2 : acc.length ≤ 100000 := by omega
    by_cases hlt2 : e < t.size
    · have hp := pk_bd t e
      have hpi := (pk_in hlt2).symm
      have hei : decide ((e : Int) < (t.size : Int)) = true := decide_eq_true (by omega)
      obtain ⟨p, hpe⟩ : ∃ p, pk t e = p := ⟨_, rfl⟩
      have HP := Lib.hid hpe
      rw [hpe] at hp hpi
      have H3 := Lib.hid (fun w => rb_tx p w hp.1 hp.2)
      have HLT := Lib.hid hlt2
      clear hpe
      have H4 := Lib.hid (at_any t S (e + 1) wr c0 hl (by omega))
      by_cases h34 : p = 34
      · subst h34
        have hlo : (litF t e (a : Int)).2 = 0 := by rw [lit_okk HLT.out (by rw [HP.out]; rfl) (by rw [HP.out]; decide) (by rw [HP.out]; decide)]
        have H4b := H4.out
        rw [show ((e + 1 : Nat) : Int) = (e : Int) + 1 by omega] at H4b
        by_cases hq : pk t (e + 1) = 34
        · have hlt3 : e + 1 < t.size := lt_of_pk hq (by decide)
          have HLT3 := Lib.hid hlt3
          have HN := Lib.hid (show quE t (a : Int) (e + 1 + 1) = quE t (a : Int) (a + 1) by rw [← HR.out, show quE t (a : Int) e = quE t (a : Int) (e + 1 + 1) by rw [quE, dif_pos hlo, if_pos HP.out, if_pos hq]])
          have HM := Lib.hid (show (acc ++ [cu 34]) ++ quA t (a : Int) (e + 1 + 1) = quA t (a : Int) (a + 1) by rw [← HAC.out, List.append_assoc, show quA t (a : Int) e = 34 :: quA t (a : Int) (e + 1 + 1) by rw [quA, dif_pos hlo, if_pos HP.out, if_pos hq]]; rfl)
          have HX := Lib.hid (show t.extract (e + 1) (e + 1 + 1) = ⟨#[cu 34]⟩ by rw [ext_one hlt3, ← cu_in hlt3, hq])
          rw [hq] at H4b
          have H5 := Lib.hid H4b
          clear hq hlo H4b
          go_wp2_with (first | (go_at_call 53; (with_reducible refine (H3.out _).mono ?_); rintro e w' ⟨rfl, rfl⟩) | (go_at_call 60; (with_reducible refine (H5.out).mono ?_); rintro e w' ⟨rfl, rfl⟩))
          go_roundw
          case rel => exact ⟨e + 1 + 1, acc ++ [cu 34], by omega, HLT3.out, by simp; omega, HN.out, HM.out, by go_num, by rw [HX.out]; exact congrArg Value.string (app_one acc _), HB.out⟩
          case measure => have := HLT.out; simp [intOf]; omega
        · have hRe : RR = ⟨r, (e : Int) + 1, l ++ [(6, ⟨acc.toArray⟩, (a : Int))], 0, 0⟩ := by
            have hqe : quE t (a : Int) (a + 1) = (0, 0, e) := by rw [← HR.out, quE, dif_pos hlo, if_pos HP.out, if_neg hq]
            have hqa : quA t (a : Int) e = [] := by rw [quA, dif_pos hlo, if_pos HP.out, if_neg hq]
            have hac := HAC.out
            rw [hqa, List.append_nil, qu_ra t (a : Int) (a + 1) (by rw [hqe]), hqe] at hac
            rw [← HRR.out, quR_ok hqe]
            unfold quT
            rw [hac]
          subst hRe
          have HADD := Lib.hid (radd_any B S t (a : Int) r v 0 b 6 (a : Int) ((e : Int) + 1) ⟨acc.toArray⟩ l wr HSR.out HLR.out hB hll)
          obtain ⟨q, hqe⟩ : ∃ q, pk t (e + 1) = q := ⟨_, rfl⟩
          rw [hqe] at H4b hq
          have hq2 : (q != 34) = true := by rw [bne_iff_ne]; exact hq
          have H5 := Lib.hid H4b
          clear hq hlo H4b hqe
          go_wp2_with (first | (go_at_call 60; (with_reducible refine (H5.out).mono ?_); rintro e w' ⟨rfl, rfl⟩) | (go_at_call 58; (with_reducible refine HADD.out.mono ?_); (rintro e6 w6 ⟨rfl, ⟨v6, hS6, hL6⟩, hb6, _⟩)))
          go_returns
          exact ⟨rfl, ⟨_, _, _, _, v6, _, hS6, hL6, (fun _ => ⟨rfl, rfl, rfl, rfl⟩), (fun h => absurd rfl h)⟩, (HB.out.mono (by omega)).trans hb6⟩
      · have n34 := h34
        have k34 : (p == 34) = false := by rw [beq_eq_false_iff_ne]; exact n34
        cases htx : bTx p
        · have n9 : p ≠ 9 := fun h => by rw [h] at htx; cases htx
          have n10 : p ≠ 10 := fun h => by rw [h] at htx; cases htx
          have k9 : (p == 9) = false := by rw [beq_eq_false_iff_ne]; exact n9
          have k10 : (p == 10) = false := by rw [beq_eq_false_iff_ne]; exact n10
          rw [htx] at H3
          have HLI := Lib.hid (lit_bad (a := (a : Int)) HLT.out (by rw [HP.out]; exact htx))
          clear htx n9 n10 n34 h34
          have hRe : RR = ⟨r, (a : Int), l, (e : Int), 2⟩ := by rw [← HRR.out]; exact quR_bad (by rw [← HR.out, quE, dif_neg (show ¬ (litF t e (a : Int)).2 = 0 by rw [HLI.out]; exact (show (2 : Int) ≠ 0 by decide)), HLI.out]) (by decide)
          subst hRe
          have HFA := Lib.hid (fail_new S t (a : Int) r v b 2 (e : Int) wr HSR.out)
          go_wp2_with (first | (go_at_call 53; (with_reducible refine (H3.out _).mono ?_); rintro e w' ⟨rfl, rfl⟩) | (go_at_call 54; (with_reducible refine HFA.out.mono ?_); (rintro e5 w5 ⟨rfl, hS5, hg5⟩)))
          go_returns
          exact ⟨rfl, ⟨_, _, _, _, v, l, hS5, HSR.out.slgb HLR.out hg5, (fun h => absurd h (show ¬ ((2 : Int) = 0) by decide)), (fun _ => ⟨rfl, rfl⟩)⟩, (HB.out.mono (by omega)).trans (hg5.below hB (by omega))⟩
        · by_cases h9 : p = 9 ∨ p = 10
          · have HLI := Lib.hid (lit_nl (a := (a : Int)) HLT.out (by rw [HP.out]; exact h9))
            rw [htx] at H3
            clear htx h34 n34
            rcases h9 with rfl | rfl
            all_goals
              have hRe : RR = ⟨r, (a : Int), l, (e : Int), 9⟩ := by rw [← HRR.out]; exact quR_bad (by rw [← HR.out, quE, dif_neg (show ¬ (litF t e (a : Int)).2 = 0 by rw [HLI.out]; exact (show (9 : Int) ≠ 0 by decide)), HLI.out]) (by decide)
              subst hRe
              have HFA := Lib.hid (fail_new S t (a : Int) r v b 9 (e : Int) wr HSR.out)
              go_wp2_with (first | (go_at_call 53; (with_reducible refine (H3.out _).mono ?_); rintro e w' ⟨rfl, rfl⟩) | (go_at_call 54; (with_reducible refine HFA.out.mono ?_); (rintro e5 w5 ⟨rfl, hS5, hg5⟩)))
              go_returns
              exact ⟨rfl, ⟨_, _, _, _, v, l, hS5, HSR.out.slgb HLR.out hg5, (fun h => absurd h (show ¬ ((9 : Int) = 0) by decide)), (fun _ => ⟨rfl, rfl⟩)⟩, (HB.out.mono (by omega)).trans (hg5.below hB (by omega))⟩
          · have n9 : p ≠ 9 := fun h => h9 (Or.inl h)
            have n10 : p ≠ 10 := fun h => h9 (Or.inr h)
            have k9 : (p == 9) = false := by rw [beq_eq_false_iff_ne]; exact n9
            have k10 : (p == 10) = false := by rw [beq_eq_false_iff_ne]; exact n10
            have hlo : (litF t e (a : Int)).2 = 0 := by rw [lit_okk HLT.out (by rw [HP.out]; exact htx) (by rw [HP.out]; exact n9) (by rw [HP.out]; exact n10)]
            have HN := Lib.hid (show quE t (a : Int) (e + 1) = quE t (a : Int) (a + 1) by rw [← HR.out, show quE t (a : Int) e = quE t (a : Int) (e + 1) by rw [quE, dif_pos hlo, if_neg (show ¬ pk t e = 34 by rw [HP.out]; exact h34)]])
            have HM := Lib.hid (show (acc ++ [cu p]) ++ quA t (a : Int) (e + 1) = quA t (a : Int) (a + 1) by rw [← HAC.out, List.append_assoc, show quA t (a : Int) e = cu p :: quA t (a : Int) (e + 1) by rw [quA, dif_pos hlo, if_neg (show ¬ pk t e = 34 by rw [HP.out]; exact h34), HP.out]]; rfl)
            have HX := Lib.hid (show t.extract e (e + 1) = ⟨#[cu p]⟩ by rw [ext_one HLT.out, ← cu_in HLT.out, HP.out])
            rw [htx] at H3
            clear htx hlo n9 n10 h9 h34 n34
            go_wp2_with (first | (go_at_call 53; (with_reducible refine (H3.out _).mono ?_); rintro e w' ⟨rfl, rfl⟩))
            go_roundw
            case rel => exact ⟨e + 1, acc ++ [cu p], by omega, HLT.out, by simp; omega, HN.out, HM.out, by go_num, by rw [HX.out]; exact congrArg Value.string (app_one acc _), HB.out⟩
            case measure => have := HLT.out; simp [intOf]; omega
    · have hge : t.size ≤ e := by omega
      have hei : decide ((e : Int) < (t.size : Int)) = false := decide_eq_false (by omega)
      have HLI := Lib.hid (lit_out (a := (a : Int)) hge)
      have hRe : RR = ⟨r, (a : Int), l, (a : Int), 16⟩ := by rw [← HRR.out]; exact quR_bad (by rw [← HR.out, quE, dif_neg (show ¬ (litF t e (a : Int)).2 = 0 by rw [HLI.out]; exact (show (16 : Int) ≠ 0 by decide)), HLI.out]) (by decide)
      subst hRe
      have HFA := Lib.hid (fail_new S t (a : Int) r v b 16 (a : Int) wr HSR.out)
      go_wp2_with (first | (go_at_call 53; (with_reducible refine (H3.out _).mono ?_); rintro e w' ⟨rfl, rfl⟩) | (go_at_call 54; (with_reducible refine HFA.out.mono ?_); (rintro e5 w5 ⟨rfl, hS5, hg5⟩)))
      go_returns
      exact ⟨rfl, ⟨_, _, _, _, v, l, hS5, HSR.out.slgb HLR.out hg5, (fun h => absurd h (show ¬ ((16 : Int) = 0) by decide)), (fun _ => ⟨rfl, rfl⟩)⟩, (HB.out.mono (by omega)).trans (hg5.below hB (by omega))⟩
end Go.Proofs.YtbnldpcbdeeflaaGreatDoor
