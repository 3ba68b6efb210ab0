/- The reference's Rounded, where the number fits. Condition: the tables hold what their initialisers lay. -/
import Derived.Test.YtanfhlkfmmglhaaDoorGRf9
namespace Go.Proofs.YtanfhlkfmmglhaaDoor
open Go.ChangeShapes Go.WideShapes Go.ChangeAt Go.RowKit
attribute [local go_sem ↓] Go.wp_at_zero Go.wp_at_succ

set_option maxRecDepth 100000 in
set_option maxHeartbeats 4000000 in
theorem rnd_fit (size how : Int) (neg more : Bool) (n p : Nat) (e : Int) (v : Value) (w : World) (ht : Tab w) (h : Sl w v (ds n)) (hp : dz size = (p : Int) ∧ sx size = 0) (hn0 : n ≠ 0) (hn : dg n ≤ 10000) (he : -20000 ≤ e) (he' : e ≤ 20000) (hp1 : p ≤ 18) (hp0 : 1 ≤ p) (hm : more = true → p < dg n) (HC : Hid ((dg (rcR p how neg e n more) : Int) + rcE p e n ≤ (p : Int) + 400)) (_hlit : True) :
    Calls Tryd.prog 38 #[.int .i64 size, .int .i64 how, .agg #[.bool neg, v, .int .i64 e, .bool more]] w fun x w' => ∃ M X er : Int, x = .returned (.tuple #[.agg #[.int .i64 M, .int .i64 X], .int .i64 er]) ∧ RndRes p how neg (rcR p how neg e n more) (rcE p e n) M X er ∧ Kept w w' := by
  have hlt := ht.lt
  have hlt0 := ht.lt0
  have HDG : Hid (∀ w, Calls Tryd.prog 73 #[.int .i64 size] w fun e w' => e = .returned (.tuple #[.int .i64 (p : Int), .int .i64 0]) ∧ w = w') := Lib.hid (fun w => by
    have := refDigits size w
    rw [hp.1, hp.2] at this
    exact this)
  obtain ⟨T, hTT⟩ : ∃ T, rT p e n = T := ⟨_, rfl⟩
  obtain ⟨E, hE⟩ : ∃ E, rcE p e n = E := ⟨_, rfl⟩
  obtain ⟨Q, hQ⟩ : ∃ Q, rcQ p e n = Q := ⟨_, rfl⟩
  obtain ⟨S, hS⟩ : ∃ S, rcS p e n more = S := ⟨_, rfl⟩
  obtain ⟨B, hB⟩ : ∃ B, rcL p e n more = B := ⟨_, rfl⟩
  obtain ⟨R, hR⟩ : ∃ R, rcR p how neg e n more = R := ⟨_, rfl⟩
  rw [hR, hE] at HC ⊢
  have hR' : R = if awR how neg Q S B = true then Q + 1 else Q := by rw [← hR]; unfold rcR; rw [hQ, hS, hB]
  have HR' := Lib.hid hR'
  clear hR hR'
  have HA : Hid (e < T ∧ E = T ∧ (∃ j : Nat, T - e = (j : Int) + 1 ∧ j ≤ 100000 ∧ Q = n / 10 ^ (j + 1) ∧ S = cutS n j more ∧ B = cutL n j more) ∨ T ≤ e ∧ E = e ∧ Q = n ∧ S = 0 ∧ B = false ∧ more = false) := Lib.hid (by
    unfold rcE at hE; unfold rcQ at hQ; unfold rcS at hS; unfold rcL at hB
    rw [hTT] at hE hQ hS hB
    have hT2 := hTT
    unfold rT at hT2
    by_cases hlt : e < T
    · rw [if_pos hlt] at hE hQ hS hB
      exact Or.inl ⟨hlt, hE.symm, (T - e - 1).toNat, by omega, by split at hT2 <;> omega, hQ.symm, hS.symm, hB.symm⟩
    · rw [if_neg hlt] at hE hQ hS hB
      refine Or.inr ⟨by omega, hE.symm, hQ.symm, hS.symm, hB.symm, ?_⟩
      cases more
      · rfl
      · have := hm rfl
        split at hT2 <;> omega)
  have hT : (e + (dg n : Int) - (p : Int) < -400 ∧ T = -400) ∨ (¬ e + (dg n : Int) - (p : Int) < -400 ∧ T = e + (dg n : Int) - (p : Int)) := by
    unfold rT at hTT
    split at hTT
    · exact Or.inl ⟨by assumption, hTT.symm⟩
    · exact Or.inr ⟨by assumption, hTT.symm⟩
  have hT1 : -40000 ≤ T := by omega
  have hT2 : T ≤ 40000 := by omega
  have HT := Lib.hid hT
  have hbd : dg Q ≤ p ∧ -40000 ≤ E ∧ E ≤ 40000 ∧ Q ≤ n := by
    rcases HA.out with ⟨h1, rfl, j, hj, hj1, rfl, _, _⟩ | ⟨h1, rfl, rfl, _, _, _⟩
    · have hd := dg_div n (j + 1)
      exact ⟨by omega, hT1, hT2, Nat.div_le_self _ _⟩
    · exact ⟨by omega, by omega, by omega, Nat.le_refl _⟩
  have hQd : Q < 10 ^ p := (dg_iff _ _).1 hbd.1
  have hp18 : 10 ^ p ≤ 10 ^ 18 := Nat.pow_le_pow_right (by omega) hp1
  have hQ18 : Q + 1 ≤ 1000000000000000000 := by
    have : (10 : Nat) ^ 18 = 1000000000000000000 := by decide
    omega
  have hR18 : R ≤ 1000000000000000000 := by rw [HR'.out]; split <;> omega
  have hR19 : dg R ≤ 19 := (dg_iff _ _).2 (Nat.lt_of_le_of_lt hR18 (by decide))
  have hE1 := hbd.2.1
  have hE2 := hbd.2.2.1
  have hQp := hbd.1
  have HB18 := Lib.hid (And.intro hQ18 hR18)
  clear hbd hQd hp18 hQ18 hR18
  have HS := Lib.hid h
  have hln := dg_ne hn0
  obtain ⟨b, off, cap, rfl, hc, hm1, hb, hg⟩ := h
  rw [ds_len] at hc HS ⊢
  have HCUT : Hid (∀ (j : Nat) (k : Int) (W : World), Tab W → Sl W (.slice (some ⟨b, off, none⟩) (dg n) cap) (ds n) → k = (j : Int) + 1 → j ≤ 100000 → Calls Tryd.prog 75 #[.agg #[.bool neg, .slice (some ⟨b, off, none⟩) (dg n) cap, .int .i64 e, .bool more], .int .i64 k] W fun x w' => ∃ v', x = .returned (.tuple #[v', .int .i64 (cutS n j more), .bool (cutL n j more)]) ∧ Sl w' v' (ds (n / 10 ^ (j + 1))) ∧ Kept W w') :=
    Lib.hid (fun j k W h1 h2 h3 h4 => refcut neg more n j k e _ W h1 h2 (by omega) h3 h4 (Or.inl hn0))
  have HN := Lib.hid hn0
  have HM := Lib.hid hm
  have HLN := Lib.hid (show dg n = dg n from rfl)
  generalize hll : dg n = ln at *
  have hlb : ((ln : Int) == 0) = false := by simp; omega
  have l1 : (ln : Int) ≤ 10000 := by omega
  have p1 : (p : Int) ≤ 18 := by omega
  have hln0 : 0 < ln := by omega
  clear hn0 hm hTT hE hQ hS hB hg hll hp hT hln
  go_enter Tryd.func38, Tryd.ntmps38
  go_upto_if 40 with (go_at_call 73; (with_reducible refine (HDG.out _).mono ?_); rintro e w' ⟨rfl, rfl⟩)
  have hI := Inv.two ht 53 [.bool neg, .slice (some ⟨b, off, none⟩) ln cap, .int .i64 e, .bool more] 25 [.int .i64 0, .int .i64 0]
  have HI := Lib.hid hI
  clear hI
  go_cut [10] (fun c10 wx => c10 = .int .i64 T ∧ Inv w [(w.heap.size, 53, [.bool neg, .slice (some ⟨b, off, none⟩) ln cap, .int .i64 e, .bool more]), (w.heap.size + 1, 25, [.int .i64 0, .int .i64 0])] wx)
  case first =>
    rcases HT.out with ⟨h1, rfl⟩ | ⟨h1, rfl⟩
    all_goals
      go_wp2_with fail
      go_meet
      exact ⟨rfl, HI.out⟩
  case rest =>
    obtain ⟨rfl, hI⟩ := hcut
    obtain ⟨⟨x0, x1, x2, x3⟩, y0, y1⟩ := rnd_facts hI
    have HI2 := Lib.hid hI
    have htw : ∀ nq, Tab (wc.drewN nq) := fun nq => (HI2.out.drewN nq).kept.1
    have hsw : ∀ nq, Sl (wc.drewN nq) (.slice (some ⟨b, off, none⟩) ln cap) (ds n) := fun nq => HS.out.call (HI2.out.drewN nq).kept
    clear hI
    go_upto_region 7 with fail
    go_quiet (fail)
    go_upto_if 48 with fail
    go_cut [10, 11, 12, 13] (fun c10 c11 c12 c13 wx => ∃ q : Value, q = c11 ∧ c10 = .int .i64 E ∧ c12 = .int .i64 S ∧ c13 = .bool B ∧ Sl wx q (ds Q) ∧ Inv w [(w.heap.size, 53, [.bool neg, .slice (some ⟨b, off, none⟩) ln cap, .int .i64 e, .bool more]), (w.heap.size + 1, 25, [.int .i64 0, .int .i64 0])] wx)
    case first =>
      rcases HA.out with ⟨hd, rfl, j, hj, hj1, rfl, rfl, rfl⟩ | ⟨hd, rfl, rfl, rfl, rfl, rfl⟩
      · have HJ := Lib.hid hj
        clear hj
        go_wp2_with (first | (go_at_call 75; (with_reducible refine (HCUT.out j _ _ (htw _) (hsw _) HJ.out hj1).mono ?_); rintro x w1 ⟨v1, rfl, hv1, hk1⟩))
        go_meet
        exact ⟨_, rfl, rfl, rfl, rfl, hv1, (HI2.out.drewN _).call hk1⟩
      · go_wp2_with fail
        go_meet
        exact ⟨_, rfl, rfl, rfl, rfl, hsw _, HI2.out.drewN _⟩
    case rest =>
      obtain ⟨q, rfl, rfl, rfl, rfl, hq, hI⟩ := hcut
      obtain ⟨a, haw⟩ : ∃ a, awR how neg Q S B = a := ⟨_, rfl⟩
      have HAW : Hid (∀ W, Tab W → Sl W q (ds Q) → Calls Tryd.prog 76 #[.int .i64 how, .bool neg, q, .int .i64 S, .bool B] W fun e w' => e = .returned (.bool a) ∧ Kept W w') := Lib.hid (fun W h1 h2 => by
        rw [← haw]; exact refaway how S neg B q Q W h1 h2 (by omega))
      have HRR : Hid (R = if a = true then Q + 1 else Q) := Lib.hid (by rw [HR'.out, haw])
      clear haw
      obtain ⟨⟨z0, z1, z2, z3⟩, y0', y1'⟩ := rnd_facts hI
      clear x0 x1 x2 x3 y0 y1 htw hsw
      have htc := hI.kept.1
      have HQ := Lib.hid hq
      have HI3 := Lib.hid hI
      clear hI hq
      go_upto_if 67 with (first | (go_at_call 76; (with_reducible refine (HAW.out _ htc HQ.out).mono ?_); rintro x w2 ⟨rfl, hk2⟩))
      have HI4 := Lib.hid (HI3.out.call hk2)
      have HQ4 := Lib.hid (HQ.out.call hk2)
      clear z0 z1 z2 z3 y0' y1'
      go_cut [11] (fun c11 wx => ∃ z : Value, z = c11 ∧ Sl wx z (ds R) ∧ Inv w [(w.heap.size, 53, [.bool neg, .slice (some ⟨b, off, none⟩) ln cap, .int .i64 e, .bool more]), (w.heap.size + 1, 25, [.int .i64 0, .int .i64 0])] wx)
      case first =>
        cases a
        · have HV : Hid (R = Q) := Lib.hid (by rw [HRR.out]; rfl)
          go_wp2_with fail
          go_meet
          exact ⟨_, rfl, by rw [HV.out]; exact HQ4.out, HI4.out⟩
        · have HV : Hid (R = Q + mag 1) := Lib.hid (by rw [HRR.out]; rfl)
          have HOF := Lib.hid (Of_any 1 w2 HI4.out.kept.1 (by decide) (by decide))
          have hd1 : dg (mag 1) ≤ 100000 := by rw [← ds_len, show mag 1 = 1 from rfl, ds_step (by omega), show 1 / 10 = 0 from rfl, ds_zero]; decide
          go_wp2_with (first
            | (go_at_call 44; (with_reducible refine HOF.out.mono ?_); rintro x w3 ⟨v3, rfl, hv3, hk3, -⟩; have ht3 := hk3.1; have hq3 := HQ4.out.call hk3)
            | (go_at_call 77; (with_reducible refine (refplus q v3 Q (mag 1) w3 ht3 hq3 hv3 (by omega) hd1).mono ?_); rintro x w4 ⟨v4, rfl, hv4, hk4⟩))
          go_meet
          exact ⟨_, rfl, by rw [HV.out]; exact hv4, (HI4.out.call hk3).call hk4⟩
      case rest =>
        obtain ⟨z, rfl, hz, hI⟩ := hcut
        obtain ⟨⟨z0, z1, z2, z3⟩, y0, y1⟩ := rnd_facts hI
        have htc := hI.kept.1
        have hkc := hI.kept
        have HO := Lib.hid (hI.own 1 _ rfl)
        have yf := fun i => (hI.own 1 _ rfl).frozen i
        have yl := (hI.own 1 _ rfl).lt
        have hzc := hI.kept.2.size
        have HI5 := Lib.hid hI
        clear hI
        have HFM : Hid (∃ M X : Int, (R = 0 ∧ M = 0 ∧ X = 0 ∨ R ≠ 0 ∧ M = sg neg (od R) ∧ X = E + (tz R : Int)) ∧ ∀ W, Tab W → Sl W z (ds R) → Calls Tryd.prog 78 #[.bool neg, z, .int .i64 E] W fun x w' => x = .returned (.agg #[.int .i64 M, .int .i64 X]) ∧ Kept W w') := Lib.hid (by
          by_cases h0 : R = 0
          · subst h0
            exact ⟨0, 0, Or.inl ⟨rfl, rfl, rfl⟩, fun W h1 h2 => form_nil neg E z W h1 h2⟩
          · exact ⟨_, _, Or.inr ⟨h0, rfl, rfl⟩, fun W h1 h2 => form_any neg R E z W h1 h2 h0 HB18.out.2 (by omega) (by omega)⟩)
        have HN9 : Hid (10 ^ p - 1 ≠ 0 ∧ 10 ^ p - 1 ≤ 1000000000000000000) := Lib.hid (by
          have a : 10 ^ 1 ≤ 10 ^ p := Nat.pow_le_pow_right (by omega) (by omega)
          have b : 10 ^ p ≤ 10 ^ 18 := Nat.pow_le_pow_right (by omega) hp1
          have c : (10 : Nat) ^ 18 = 1000000000000000000 := by decide
          omega)
        obtain ⟨bz, oz, cz, rfl, cc, cm, cb, cg⟩ := id hz
        have HZ := Lib.hid hz
        clear cc cm cb cg hz
        rw [ds_len] at *
        have hfit := HC.out
        generalize hlr : dg R = lr at *
        have HLR := Lib.hid hlr
        clear hlr
        obtain ⟨M, X, hMX, hfm⟩ := HFM.out
        have HMX := Lib.hid hMX
        have HFM2 := Lib.hid (hfm wc htc HZ.out)
        clear hMX hfm HFM
        go_wp2_with (first | (go_at_call 78; (with_reducible refine HFM2.out.mono ?_); rintro x w6 ⟨rfl, hk6⟩; obtain ⟨hc6, hf6⟩ := bcell hk6.2; have ht6 := hk6.1; have hz6 := hk6.2.size))
        have hF := ((HO.out.call hk6).put 0 (.int .i64 M)).put 1 (.int .i64 X)
        refine bodyPost_ret (ret_own_tmp rfl hF rfl Tryd.underlying25 rfl (by kernel_rfl)) rfl ?_
        exact ⟨M, X, 0, rfl, Or.inl ⟨by rw [HLR.out]; have hcc := HC.out; omega, rfl, HMX.out⟩, (by repeat' (first | (with_reducible assumption) | (with_reducible exact Kept.refl ht) | (with_reducible refine Kept.alloc ?_ _) | (with_reducible refine Kept.drew ?_) | (with_reducible refine Kept.drewN ?_ _) | (with_reducible refine Kept.setCell ?_ ?_ _ ?_ ?_) | (with_reducible refine Kept.trans ?_ (by assumption)) | omega | (simp; done) | (simp; omega)))⟩
end Go.Proofs.YtanfhlkfmmglhaaDoor
