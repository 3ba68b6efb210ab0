/- The reference's comments and pragmats. Condition: its block and its list lie in blocks of the call's own. -/
import Derived.Test.YtbnldpcbdeeflaaGreatDoorRg
namespace Go.Proofs.YtbnldpcbdeeflaaGreatDoor
open Go.ChangeShapes Go.WideShapes Go.ChangeAt Go.RowKit

set_option maxRecDepth 100000 in
set_option maxHeartbeats 4000000 in
theorem rcom_any (B S a : Nat) (t : ByteArray) (r b : Int) (v : Value) (l : List Sy) (w : World) (hS : Rc w S t (a : Int) r v 0 b) (hL : Sl w B v l) (hB : B ≤ S) (hl : t.size ≤ 100000) (ha : a < t.size) :
    Calls Tryz.prog 55 #[.pointer (some ⟨S, 0, none⟩), .string ⟨#[35]⟩, .int .i64 (a : Int), .int .i64 ((a : Int) + 1)] w (RPo B S t w ⟨r, (cmE t (a : Int) (a + 1)).1, l, (cmE t (a : Int) (a + 1)).2.1, (cmE t (a : Int) (a + 1)).2.2⟩) := by
  have hlt := hS.lt
  have c0 := hS.c0
  have c1 := hS.c1
  have fS := fun i => Own.frozen hS i
  have HSR := Lib.hid hS
  have HLR := Lib.hid hL
  obtain ⟨RR, hRR⟩ : ∃ R : Rs, ⟨r, (cmE t (a : Int) (a + 1)).1, l, (cmE t (a : Int) (a + 1)).2.1, (cmE t (a : Int) (a + 1)).2.2⟩ = R := ⟨_, rfl⟩
  rw [hRR]
  have HRR := Lib.hid hRR
  clear hS hL hRR
  go_enter Tryz.func55, Tryz.ntmps55
  go_wp2
  go_loop [3] (fun v3 => ∃ i : Nat, a + 1 ≤ i ∧ i ≤ t.size ∧ cmE t (a : Int) i = cmE t (a : Int) (a + 1) ∧ v3 = .int .i64 i) (fun v3 => t.size - (intOf v3).toNat)
  case atStart => exact ⟨a + 1, Nat.le_refl _, ha, rfl, by go_num⟩
  case round =>
    obtain ⟨i, hi1, hi2, hcm, rfl⟩ := hrel
    have HCM := Lib.hid hcm
    clear hcm
    by_cases hit : i < t.size
    · have hp := pk_bd t i
      have hpi := (pk_in hit).symm
      obtain ⟨p, hpe⟩ : ∃ p, pk t i = p := ⟨_, rfl⟩
      have HP := Lib.hid hpe
      rw [hpe] at hp hpi
      have h3 := fun w => rb_tx p w hp.1 hp.2
      clear hpe
      cases htx : bTx p
      · rw [htx] at h3
        have H3 := Lib.hid h3
        have hRe : RR = ⟨r, (a : Int), l, (i : Int), 2⟩ := by rw [← HRR.out, ← HCM.out, cm_bad hit (by rw [HP.out]; exact htx)]
        subst hRe
        have HFA := Lib.hid (fail_new S t (a : Int) r v b 2 (i : Int) w HSR.out)
        clear h3 htx
        go_wp2_with (first | (go_at_call 53; (with_reducible refine (H3.out _).mono ?_); rintro e w' ⟨rfl, rfl⟩) | (go_at_call 54; (with_reducible refine HFA.out.mono ?_); (rintro e5 w5 ⟨rfl, hS5, hg5⟩)))
        go_returns
        exact ⟨rfl, ⟨_, _, _, _, v, l, hS5, HSR.out.slgb HLR.out hg5, (fun h => absurd h (show ¬ ((2 : Int) = 0) by decide)), (fun _ => ⟨rfl, rfl⟩)⟩, hg5.below hB (by omega)⟩
      · by_cases h35 : p = 35
        · subst h35
          have H3 := Lib.hid h3
          have hRe : RR = ⟨r, (i : Int) + 1, l, 0, 0⟩ := by rw [← HRR.out, ← HCM.out, cm_end hit (by rw [HP.out]; rfl) HP.out]
          subst hRe
          rw [htx] at h3
          have H4 := Lib.hid h3
          clear h3 htx H3
          go_wp2_with (first | (go_at_call 53; (with_reducible refine (H4.out _).mono ?_); rintro e w' ⟨rfl, rfl⟩))
          go_returns
          have hg : Gb S w (w.setCell ⟨S, 1, none⟩ (.int .i64 ((i : Int) + 1))) := (Gb.refl S w).set (Or.inl rfl) _
          exact ⟨rfl, ⟨_, _, _, _, v, l, Own.put HSR.out 1 (.int .i64 ((i : Int) + 1)), HSR.out.slgb HLR.out hg, (fun _ => ⟨rfl, rfl, rfl, rfl⟩), (fun h => absurd rfl h)⟩, hg.below hB (by omega)⟩
        · have h35b : (p == 35) = false := by rw [beq_eq_false_iff_ne]; exact h35
          have HN := Lib.hid (show cmE t (a : Int) (i + 1) = cmE t (a : Int) (a + 1) by rw [← HCM.out]; exact (cm_next hit (by rw [HP.out]; exact htx) (by rw [HP.out]; exact h35)).symm)
          rw [htx] at h3
          have H3 := Lib.hid h3
          clear h3 htx h35
          go_wp2_with (first | (go_at_call 53; (with_reducible refine (H3.out _).mono ?_); rintro e w' ⟨rfl, rfl⟩))
          go_round
          case rel => exact ⟨i + 1, by omega, hit, HN.out, by go_num⟩
          case measure => simp [intOf]; omega
    · have hge : t.size ≤ i := by omega
      have hRe : RR = ⟨r, (a : Int), l, (a : Int), 16⟩ := by rw [← HRR.out, ← HCM.out, cm_out hge]
      subst hRe
      have HFA := Lib.hid (fail_new S t (a : Int) r v b 16 (a : Int) w HSR.out)
      go_wp2_with (first | (go_at_call 54; (with_reducible refine HFA.out.mono ?_); (rintro e5 w5 ⟨rfl, hS5, hg5⟩)))
      go_returns
      exact ⟨rfl, ⟨_, _, _, _, v, l, hS5, HSR.out.slgb HLR.out hg5, (fun h => absurd h (show ¬ ((16 : Int) = 0) by decide)), (fun _ => ⟨rfl, rfl⟩)⟩, hg5.below hB (by omega)⟩
set_option maxRecDepth 100000 in
set_option maxHeartbeats 16000000 in
theorem rrem_any (B S a f : Nat) (t x : ByteArray) (b1 b2 : Bool) (r b : Int) (v : Value) (l : List Sy) (w : World) (hS : Rc w S t (a : Int) r v 0 b) (hL : Sl w B v l) (hB : B ≤ S) (hl : t.size ≤ 100000) (hf1 : 1 ≤ f) (hf2 : f ≤ t.size) (hr : 0 ≤ r ∧ r ≤ 2) (hx0 : x ≠ ⟨#[]⟩) (hx1 : x ≠ ⟨#[35]⟩) (hb1 : (x.toList == [80, 82]) = b1) (hb2 : (x.toList == [80, 82, 65, 71, 77, 65, 84]) = b2) (hfj : r = 0 → bSd (pk t (f - 1)) = false) :
    Calls Tryz.prog 55 #[.pointer (some ⟨S, 0, none⟩), .string x, .int .i64 (a : Int), .int .i64 (f : Int)] w (RPo B S t w (rmR r t x a f (b1 || b2) l)) := by
  have hlt := hS.lt
  have HC : Hid (∀ W, Below w.heap.size w W → Rc W S t (a : Int) r v 0 b ∧ Sl W B v l) := Lib.hid (fun W hb => ⟨hS.kept hb, hS.sl hL hb⟩)
  have hx35 : (x.toList == [35]) = false := toL_ne (c := [35]) hx1
  have HX0 := Lib.hid hx0
  have HFJ := Lib.hid hfj
  have HSZ := Lib.hid hl
  have HR02 := Lib.hid hr
  obtain ⟨RR, hRR⟩ : ∃ R : Rs, rmR r t x a f (b1 || b2) l = R := ⟨_, rfl⟩
  rw [hRR]
  have HRR := Lib.hid hRR
  clear hS hL hRR hx0 hx1 hfj hr
  go_enter Tryz.func55, Tryz.ntmps55
  go_wp2
  go_loopw [3] (fun v3 wr => ∃ i : Nat, f ≤ i ∧ i ≤ t.size ∧ rmE r t x a i = rmE r t x a f ∧ v3 = .int .i64 i ∧ Below w.heap.size w wr) (fun v3 _ => t.size - (intOf v3).toNat)
  case atStart => exact ⟨f, Nat.le_refl _, hf2, rfl, rfl, Below.refl _ w⟩
  case round =>
    obtain ⟨i, hfi, hi, he, rfl, hb⟩ := hrel
    have HE := Lib.hid he
    have HFI := Lib.hid hfi
    have hRr := (HC.out wr hb).1
    have HLR := Lib.hid (HC.out wr hb).2
    have c0 := hRr.c0
    have c2 := hRr.c2
    have HSR := Lib.hid hRr
    have hlr := hRr.lt
    have hzr := hb.size
    have HBB := Lib.hid hb
    clear he hb hRr
    by_cases hit : i < t.size
    · have hp := pk_bd t i
      have hpi := (pk_in hit).symm
      obtain ⟨p, hpe⟩ : ∃ p, pk t i = p := ⟨_, rfl⟩
      have HP := Lib.hid hpe
      rw [hpe] at hp hpi
      have h3 := fun w => rb_tx p w hp.1 hp.2
      clear hpe
      cases htx : bTx p
      · rw [htx] at h3
        have H3 := Lib.hid h3
        have hRe : RR = ⟨r, (a : Int), l, (i : Int), 2⟩ := by
          rw [← HRR.out]
          unfold rmR
          rw [← HE.out, rm_bad hit (by rw [HP.out]; exact htx)]
          rfl
        subst hRe
        have HFA := Lib.hid (fail_new S t (a : Int) r v b 2 (i : Int) wr HSR.out)
        clear h3 htx
        go_wp2_with (first | (go_at_call 53; (with_reducible refine (H3.out _).mono ?_); rintro e w' ⟨rfl, rfl⟩) | (go_at_call 54; (with_reducible refine HFA.out.mono ?_); (rintro e5 w5 ⟨rfl, hS5, hg5⟩)))
        go_returns
        exact ⟨rfl, ⟨_, _, _, _, v, l, hS5, HSR.out.slgb HLR.out hg5, (fun h => absurd h (show ¬ ((2 : Int) = 0) by decide)), (fun _ => ⟨rfl, rfl⟩)⟩, (HBB.out.mono (by omega)).trans (hg5.below hB (by omega))⟩
      · rw [htx] at h3
        have H3 := Lib.hid h3
        have HTX := Lib.hid (show bTx (pk t i) = true by rw [HP.out]; exact htx)
        have hbe := bd_end r t i hit
        have hbo := rbold_any t S i r wr c0 c2 HR02.out HSZ.out hi
        have hup := bd_up (r := r) (t := t) (a := i)
        obtain ⟨⟨y, e⟩, hy⟩ : ∃ q, bdF r t i = q := ⟨_, rfl⟩
        have HY := Lib.hid hy
        rw [hy] at hbe hbo hup
        simp only at hbe hbo hup
        obtain ⟨hie, het⟩ := hbe
        have HUP := Lib.hid hup
        have HBO := Lib.hid hbo
        obtain ⟨jb, hjb⟩ : ∃ q, jn r t i = q := ⟨_, rfl⟩
        have HJB := Lib.hid hjb
        have HGO : Hid (¬ (y = x ∧ jb = false) → rmE r t x a (max (i + 1) e) = rmE r t x a f) := Lib.hid (fun h => by rw [← HE.out, rm_go hit HTX.out (by rw [HY.out, HJB.out]; exact h), HY.out])
        have hei : i = f ∨ f < i := by omega
        clear h3 htx hbo hy hup
        by_cases hr0 : r = 0
        · subst hr0
          rcases hei with hei | hei
          · have hj : jb = false := by
              have := HFJ.out rfl
              rw [← HJB.out]
              unfold jn
              rw [hei, this, Bool.and_false]
            have hif2 : i ≤ f := by omega
            subst hj
            clear hjb hei hfi
            by_cases hxy : y = x
            · subst hxy
              have hei2 : i < e := HUP.out HX0.out
              cases b1
              · cases b2
                · have hRe : RR = ⟨0, (e : Int), l, 0, 0⟩ := by
                    rw [← HRR.out]
                    unfold rmR
                    rw [← HE.out, rm_end hit HTX.out (by rw [HY.out]) HJB.out, HY.out]
                    rfl
                  subst hRe
                  go_wp2_with (first | (go_at_call 53; (with_reducible refine (H3.out _).mono ?_); rintro e w' ⟨rfl, rfl⟩) | (go_at_call 56; (with_reducible refine HBO.out.mono ?_); (rintro e5 wb ⟨rfl, kb⟩); (have hRb := HSR.out.kept kb); (have d0 : wb.cell? ⟨S, 0, none⟩ = some (.string t) := Own.cell hRb 0); (have d1 : wb.cell? ⟨S, 1, none⟩ = some (.int .i64 (a : Int)) := Own.cell hRb 1); (have d2 : wb.cell? ⟨S, 2, none⟩ = some (.int .i64 0) := Own.cell hRb 2); (have fb := fun i => Own.frozen hRb i); (have lb := Own.lt hRb); (have HRB := Lib.hid hRb); (have HKB := Lib.hid kb); clear hRb kb))
                  go_returns
                  have hgb : Gb S wr (wb.setCell ⟨S, 1, none⟩ (.int .i64 (e : Int))) := (Gb.of HKB.out).set (Or.inl rfl) _
                  exact ⟨rfl, ⟨_, _, _, _, v, l, Own.put HRB.out 1 (.int .i64 (e : Int)), HSR.out.slgb HLR.out hgb, (fun _ => ⟨rfl, rfl, rfl, rfl⟩), (fun h => absurd rfl h)⟩, (HBB.out.mono (by omega)).trans (hgb.below hB (by omega))⟩
                · have hRe : RR = ⟨pgR 0 (t.extract f i), (e : Int), l, 0, 0⟩ := by
                    rw [← HRR.out]
                    unfold rmR
                    rw [← HE.out, rm_end hit HTX.out (by rw [HY.out]) HJB.out, HY.out]
                    rfl
                  subst hRe
                  have hxs : (t.extract f i).size ≤ 100000 := by have := HSZ.out; rw [ByteArray.size_extract]; omega
                  have HRE : Hid (∀ W, Rc W S t (e : Int) 0 v 0 b → Calls Tryz.prog 94 #[.pointer (some ⟨S, 0, none⟩), .string (t.extract f i)] W fun y w' => y = .returned (.tuple #[]) ∧ Rc w' S t (e : Int) (pgR 0 (t.extract f i)) v 0 b ∧ Gb S W w') := Lib.hid (fun W h => rregime_any S t (t.extract f i) (e : Int) 0 v 0 b W h hxs)
                  clear hxs
                  go_wp2_with (first | (go_at_call 53; (with_reducible refine (H3.out _).mono ?_); rintro e w' ⟨rfl, rfl⟩) | (go_at_call 56; (with_reducible refine HBO.out.mono ?_); (rintro e5 wb ⟨rfl, kb⟩); (have hRb := HSR.out.kept kb); (have d0 : wb.cell? ⟨S, 0, none⟩ = some (.string t) := Own.cell hRb 0); (have d1 : wb.cell? ⟨S, 1, none⟩ = some (.int .i64 (a : Int)) := Own.cell hRb 1); (have d2 : wb.cell? ⟨S, 2, none⟩ = some (.int .i64 0) := Own.cell hRb 2); (have fb := fun i => Own.frozen hRb i); (have lb := Own.lt hRb); (have HRB := Lib.hid hRb); (have HKB := Lib.hid kb); clear hRb kb) | (go_at_call 94; (have HRP : Rc (wb.setCell ⟨S, 1, none⟩ (.int .i64 (e : Int))) S t (e : Int) 0 v 0 b := Own.put HRB.out 1 (.int .i64 (e : Int))); (with_reducible refine (HRE.out _ HRP).mono ?_); (rintro e7 w7 ⟨rfl, hS7, hg7⟩)))
                  go_returns
                  have hgb : Gb S wr (wb.setCell ⟨S, 1, none⟩ (.int .i64 (e : Int))) := (Gb.of HKB.out).set (Or.inl rfl) _
                  have hgc := hgb.trans hg7
                  exact ⟨rfl, ⟨_, _, _, _, v, l, hS7, HSR.out.slgb HLR.out hgc, (fun _ => ⟨rfl, rfl, rfl, rfl⟩), (fun h => absurd rfl h)⟩, (HBB.out.mono (by omega)).trans (hgc.below hB (by omega))⟩
              · cases b2
                · have hRe : RR = ⟨pgR 0 (t.extract f i), (e : Int), l, 0, 0⟩ := by
                    rw [← HRR.out]
                    unfold rmR
                    rw [← HE.out, rm_end hit HTX.out (by rw [HY.out]) HJB.out, HY.out]
                    rfl
                  subst hRe
                  have hxs : (t.extract f i).size ≤ 100000 := by have := HSZ.out; rw [ByteArray.size_extract]; omega
                  have HRE : Hid (∀ W, Rc W S t (e : Int) 0 v 0 b → Calls Tryz.prog 94 #[.pointer (some ⟨S, 0, none⟩), .string (t.extract f i)] W fun y w' => y = .returned (.tuple #[]) ∧ Rc w' S t (e : Int) (pgR 0 (t.extract f i)) v 0 b ∧ Gb S W w') := Lib.hid (fun W h => rregime_any S t (t.extract f i) (e : Int) 0 v 0 b W h hxs)
                  clear hxs
                  go_wp2_with (first | (go_at_call 53; (with_reducible refine (H3.out _).mono ?_); rintro e w' ⟨rfl, rfl⟩) | (go_at_call 56; (with_reducible refine HBO.out.mono ?_); (rintro e5 wb ⟨rfl, kb⟩); (have hRb := HSR.out.kept kb); (have d0 : wb.cell? ⟨S, 0, none⟩ = some (.string t) := Own.cell hRb 0); (have d1 : wb.cell? ⟨S, 1, none⟩ = some (.int .i64 (a : Int)) := Own.cell hRb 1); (have d2 : wb.cell? ⟨S, 2, none⟩ = some (.int .i64 0) := Own.cell hRb 2); (have fb := fun i => Own.frozen hRb i); (have lb := Own.lt hRb); (have HRB := Lib.hid hRb); (have HKB := Lib.hid kb); clear hRb kb) | (go_at_call 94; (have HRP : Rc (wb.setCell ⟨S, 1, none⟩ (.int .i64 (e : Int))) S t (e : Int) 0 v 0 b := Own.put HRB.out 1 (.int .i64 (e : Int))); (with_reducible refine (HRE.out _ HRP).mono ?_); (rintro e7 w7 ⟨rfl, hS7, hg7⟩)))
                  go_returns
                  have hgb : Gb S wr (wb.setCell ⟨S, 1, none⟩ (.int .i64 (e : Int))) := (Gb.of HKB.out).set (Or.inl rfl) _
                  have hgc := hgb.trans hg7
                  exact ⟨rfl, ⟨_, _, _, _, v, l, hS7, HSR.out.slgb HLR.out hgc, (fun _ => ⟨rfl, rfl, rfl, rfl⟩), (fun h => absurd rfl h)⟩, (HBB.out.mono (by omega)).trans (hgc.below hB (by omega))⟩
                · have hRe : RR = ⟨pgR 0 (t.extract f i), (e : Int), l, 0, 0⟩ := by
                    rw [← HRR.out]
                    unfold rmR
                    rw [← HE.out, rm_end hit HTX.out (by rw [HY.out]) HJB.out, HY.out]
                    rfl
                  subst hRe
                  have hxs : (t.extract f i).size ≤ 100000 := by have := HSZ.out; rw [ByteArray.size_extract]; omega
                  have HRE : Hid (∀ W, Rc W S t (e : Int) 0 v 0 b → Calls Tryz.prog 94 #[.pointer (some ⟨S, 0, none⟩), .string (t.extract f i)] W fun y w' => y = .returned (.tuple #[]) ∧ Rc w' S t (e : Int) (pgR 0 (t.extract f i)) v 0 b ∧ Gb S W w') := Lib.hid (fun W h => rregime_any S t (t.extract f i) (e : Int) 0 v 0 b W h hxs)
                  clear hxs
                  go_wp2_with (first | (go_at_call 53; (with_reducible refine (H3.out _).mono ?_); rintro e w' ⟨rfl, rfl⟩) | (go_at_call 56; (with_reducible refine HBO.out.mono ?_); (rintro e5 wb ⟨rfl, kb⟩); (have hRb := HSR.out.kept kb); (have d0 : wb.cell? ⟨S, 0, none⟩ = some (.string t) := Own.cell hRb 0); (have d1 : wb.cell? ⟨S, 1, none⟩ = some (.int .i64 (a : Int)) := Own.cell hRb 1); (have d2 : wb.cell? ⟨S, 2, none⟩ = some (.int .i64 0) := Own.cell hRb 2); (have fb := fun i => Own.frozen hRb i); (have lb := Own.lt hRb); (have HRB := Lib.hid hRb); (have HKB := Lib.hid kb); clear hRb kb) | (go_at_call 94; (have HRP : Rc (wb.setCell ⟨S, 1, none⟩ (.int .i64 (e : Int))) S t (e : Int) 0 v 0 b := Own.put HRB.out 1 (.int .i64 (e : Int))); (with_reducible refine (HRE.out _ HRP).mono ?_); (rintro e7 w7 ⟨rfl, hS7, hg7⟩)))
                  go_returns
                  have hgb : Gb S wr (wb.setCell ⟨S, 1, none⟩ (.int .i64 (e : Int))) := (Gb.of HKB.out).set (Or.inl rfl) _
                  have hgc := hgb.trans hg7
                  exact ⟨rfl, ⟨_, _, _, _, v, l, hS7, HSR.out.slgb HLR.out hgc, (fun _ => ⟨rfl, rfl, rfl, rfl⟩), (fun h => absurd rfl h)⟩, (HBB.out.mono (by omega)).trans (hgc.below hB (by omega))⟩
            · have hyx : (y.toList == x.toList) = false := by
                rw [beq_eq_false_iff_ne, ByteArray.toList_eq, ByteArray.toList_eq]
                exact fun h => hxy (bytes_inj h)
              have hgo := HGO.out (fun h => hxy h.1)
              clear hxy
              by_cases hei2 : i < e
              · have HG := Lib.hid (show rmE 0 t x a e = rmE 0 t x a f by rw [Nat.max_eq_right (by omega)] at hgo; exact hgo)
                clear hgo
                go_wp2_with (first | (go_at_call 53; (with_reducible refine (H3.out _).mono ?_); rintro e w' ⟨rfl, rfl⟩) | (go_at_call 56; (with_reducible refine HBO.out.mono ?_); (rintro e5 wb ⟨rfl, kb⟩); (have hRb := HSR.out.kept kb); (have d0 : wb.cell? ⟨S, 0, none⟩ = some (.string t) := Own.cell hRb 0); (have d1 : wb.cell? ⟨S, 1, none⟩ = some (.int .i64 (a : Int)) := Own.cell hRb 1); (have d2 : wb.cell? ⟨S, 2, none⟩ = some (.int .i64 0) := Own.cell hRb 2); (have fb := fun i => Own.frozen hRb i); (have lb := Own.lt hRb); (have HRB := Lib.hid hRb); (have HKB := Lib.hid kb); clear hRb kb))
                go_roundw
                case rel => exact ⟨e, (by have := HFI.out; omega), by omega, HG.out, by go_num, HBB.out.trans (HKB.out.mono hzr)⟩
                case measure => simp [intOf]; omega
              · have HG := Lib.hid (show rmE 0 t x a (i + 1) = rmE 0 t x a f by rw [Nat.max_eq_left (by omega)] at hgo; exact hgo)
                clear hgo
                go_wp2_with (first | (go_at_call 53; (with_reducible refine (H3.out _).mono ?_); rintro e w' ⟨rfl, rfl⟩) | (go_at_call 56; (with_reducible refine HBO.out.mono ?_); (rintro e5 wb ⟨rfl, kb⟩); (have hRb := HSR.out.kept kb); (have d0 : wb.cell? ⟨S, 0, none⟩ = some (.string t) := Own.cell hRb 0); (have d1 : wb.cell? ⟨S, 1, none⟩ = some (.int .i64 (a : Int)) := Own.cell hRb 1); (have d2 : wb.cell? ⟨S, 2, none⟩ = some (.int .i64 0) := Own.cell hRb 2); (have fb := fun i => Own.frozen hRb i); (have lb := Own.lt hRb); (have HRB := Lib.hid hRb); (have HKB := Lib.hid kb); clear hRb kb))
                go_roundw
                case rel => exact ⟨i + 1, (by have := HFI.out; omega), by omega, HG.out, by go_num, HBB.out.trans (HKB.out.mono hzr)⟩
                case measure => simp [intOf]; omega
          · obtain ⟨j, hj⟩ : ∃ j, i = j + 1 := ⟨i - 1, by omega⟩
            have hjt : j < t.size := by omega
            have hq := pk_bd t j
            have hqi := (pk_in hjt).symm
            obtain ⟨q, hqe⟩ : ∃ q, pk t j = q := ⟨_, rfl⟩
            rw [hqe] at hq hqi
            have h7 := fun w => rb_sm q w hq.1 hq.2
            have h8 := fun w => rb_di q w hq.1 hq.2
            have hjv : jb = (bSm q || bDi q) := by
              rw [← HJB.out]
              unfold jn
              rw [hj, Nat.add_sub_cancel, hqe]
              rfl
            have hji : (i : Int) - 1 = (j : Int) := by omega
            clear hjb hqe hj
            cases hs : bSm q
            · cases hd : bDi q
              · rw [hs, hd] at hjv
                rw [hs] at h7
                rw [hd] at h8
                have H7 := Lib.hid h7
                have H8 := Lib.hid h8
                subst hjv
                clear h7 h8 hs hd
                by_cases hxy : y = x
                · subst hxy
                  have hei2 : i < e := HUP.out HX0.out
                  cases b1
                  · cases b2
                    · have hRe : RR = ⟨0, (e : Int), l, 0, 0⟩ := by
                        rw [← HRR.out]
                        unfold rmR
                        rw [← HE.out, rm_end hit HTX.out (by rw [HY.out]) HJB.out, HY.out]
                        rfl
                      subst hRe
                      go_wp2_with (first | (go_at_call 53; (with_reducible refine (H3.out _).mono ?_); rintro e w' ⟨rfl, rfl⟩) | (go_at_call 56; (with_reducible refine HBO.out.mono ?_); (rintro e5 wb ⟨rfl, kb⟩); (have hRb := HSR.out.kept kb); (have d0 : wb.cell? ⟨S, 0, none⟩ = some (.string t) := Own.cell hRb 0); (have d1 : wb.cell? ⟨S, 1, none⟩ = some (.int .i64 (a : Int)) := Own.cell hRb 1); (have d2 : wb.cell? ⟨S, 2, none⟩ = some (.int .i64 0) := Own.cell hRb 2); (have fb := fun i => Own.frozen hRb i); (have lb := Own.lt hRb); (have HRB := Lib.hid hRb); (have HKB := Lib.hid kb); clear hRb kb) | (go_at_call 93; (with_reducible refine (H7.out _).mono ?_); rintro e w' ⟨rfl, rfl⟩) | (go_at_call 59; (with_reducible refine (H8.out _).mono ?_); rintro e w' ⟨rfl, rfl⟩))
                      go_returns
                      have hgb : Gb S wr (wb.setCell ⟨S, 1, none⟩ (.int .i64 (e : Int))) := (Gb.of HKB.out).set (Or.inl rfl) _
                      exact ⟨rfl, ⟨_, _, _, _, v, l, Own.put HRB.out 1 (.int .i64 (e : Int)), HSR.out.slgb HLR.out hgb, (fun _ => ⟨rfl, rfl, rfl, rfl⟩), (fun h => absurd rfl h)⟩, (HBB.out.mono (by omega)).trans (hgb.below hB (by omega))⟩
                    · have hRe : RR = ⟨pgR 0 (t.extract f i), (e : Int), l, 0, 0⟩ := by
                        rw [← HRR.out]
                        unfold rmR
                        rw [← HE.out, rm_end hit HTX.out (by rw [HY.out]) HJB.out, HY.out]
                        rfl
                      subst hRe
                      have hxs : (t.extract f i).size ≤ 100000 := by have := HSZ.out; rw [ByteArray.size_extract]; omega
                      have HRE : Hid (∀ W, Rc W S t (e : Int) 0 v 0 b → Calls Tryz.prog 94 #[.pointer (some ⟨S, 0, none⟩), .string (t.extract f i)] W fun y w' => y = .returned (.tuple #[]) ∧ Rc w' S t (e : Int) (pgR 0 (t.extract f i)) v 0 b ∧ Gb S W w') := Lib.hid (fun W h => rregime_any S t (t.extract f i) (e : Int) 0 v 0 b W h hxs)
                      clear hxs
                      go_wp2_with (first | (go_at_call 53; (with_reducible refine (H3.out _).mono ?_); rintro e w' ⟨rfl, rfl⟩) | (go_at_call 56; (with_reducible refine HBO.out.mono ?_); (rintro e5 wb ⟨rfl, kb⟩); (have hRb := HSR.out.kept kb); (have d0 : wb.cell? ⟨S, 0, none⟩ = some (.string t) := Own.cell hRb 0); (have d1 : wb.cell? ⟨S, 1, none⟩ = some (.int .i64 (a : Int)) := Own.cell hRb 1); (have d2 : wb.cell? ⟨S, 2, none⟩ = some (.int .i64 0) := Own.cell hRb 2); (have fb := fun i => Own.frozen hRb i); (have lb := Own.lt hRb); (have HRB := Lib.hid hRb); (have HKB := Lib.hid kb); clear hRb kb) | (go_at_call 93; (with_reducible refine (H7.out _).mono ?_); rintro e w' ⟨rfl, rfl⟩) | (go_at_call 59; (with_reducible refine (H8.out _).mono ?_); rintro e w' ⟨rfl, rfl⟩) | (go_at_call 94; (have HRP : Rc (wb.setCell ⟨S, 1, none⟩ (.int .i64 (e : Int))) S t (e : Int) 0 v 0 b := Own.put HRB.out 1 (.int .i64 (e : Int))); (with_reducible refine (HRE.out _ HRP).mono ?_); (rintro e7 w7 ⟨rfl, hS7, hg7⟩)))
                      go_returns
                      have hgb : Gb S wr (wb.setCell ⟨S, 1, none⟩ (.int .i64 (e : Int))) := (Gb.of HKB.out).set (Or.inl rfl) _
                      have hgc := hgb.trans hg7
                      exact ⟨rfl, ⟨_, _, _, _, v, l, hS7, HSR.out.slgb HLR.out hgc, (fun _ => ⟨rfl, rfl, rfl, rfl⟩), (fun h => absurd rfl h)⟩, (HBB.out.mono (by omega)).trans (hgc.below hB (by omega))⟩
                  · cases b2
                    · have hRe : RR = ⟨pgR 0 (t.extract f i), (e : Int), l, 0, 0⟩ := by
                        rw [← HRR.out]
                        unfold rmR
                        rw [← HE.out, rm_end hit HTX.out (by rw [HY.out]) HJB.out, HY.out]
                        rfl
                      subst hRe
                      have hxs : (t.extract f i).size ≤ 100000 := by have := HSZ.out; rw [ByteArray.size_extract]; omega
                      have HRE : Hid (∀ W, Rc W S t (e : Int) 0 v 0 b → Calls Tryz.prog 94 #[.pointer (some ⟨S, 0, none⟩), .string (t.extract f i)] W fun y w' => y = .returned (.tuple #[]) ∧ Rc w' S t (e : Int) (pgR 0 (t.extract f i)) v 0 b ∧ Gb S W w') := Lib.hid (fun W h => rregime_any S t (t.extract f i) (e : Int) 0 v 0 b W h hxs)
                      clear hxs
                      go_wp2_with (first | (go_at_call 53; (with_reducible refine (H3.out _).mono ?_); rintro e w' ⟨rfl, rfl⟩) | (go_at_call 56; (with_reducible refine HBO.out.mono ?_); (rintro e5 wb ⟨rfl, kb⟩); (have hRb := HSR.out.kept kb); (have d0 : wb.cell? ⟨S, 0, none⟩ = some (.string t) := Own.cell hRb 0); (have d1 : wb.cell? ⟨S, 1, none⟩ = some (.int .i64 (a : Int)) := Own.cell hRb 1); (have d2 : wb.cell? ⟨S, 2, none⟩ = some (.int .i64 0) := Own.cell hRb 2); (have fb := fun i => Own.frozen hRb i); (have lb := Own.lt hRb); (have HRB := Lib.hid hRb); (have HKB := Lib.hid kb); clear hRb kb) | (go_at_call 93; (with_reducible refine (H7.out _).mono ?_); rintro e w' ⟨rfl, rfl⟩) | (go_at_call 59; (with_reducible refine (H8.out _).mono ?_); rintro e w' ⟨rfl, rfl⟩) | (go_at_call 94; (have HRP : Rc (wb.setCell ⟨S, 1, none⟩ (.int .i64 (e : Int))) S t (e : Int) 0 v 0 b := Own.put HRB.out 1 (.int .i64 (e : Int))); (with_reducible refine (HRE.out _ HRP).mono ?_); (rintro e7 w7 ⟨rfl, hS7, hg7⟩)))
                      go_returns
                      have hgb : Gb S wr (wb.setCell ⟨S, 1, none⟩ (.int .i64 (e : Int))) := (Gb.of HKB.out).set (Or.inl rfl) _
                      have hgc := hgb.trans hg7
                      exact ⟨rfl, ⟨_, _, _, _, v, l, hS7, HSR.out.slgb HLR.out hgc, (fun _ => ⟨rfl, rfl, rfl, rfl⟩), (fun h => absurd rfl h)⟩, (HBB.out.mono (by omega)).trans (hgc.below hB (by omega))⟩
                    · have hRe : RR = ⟨pgR 0 (t.extract f i), (e : Int), l, 0, 0⟩ := by
                        rw [← HRR.out]
                        unfold rmR
                        rw [← HE.out, rm_end hit HTX.out (by rw [HY.out]) HJB.out, HY.out]
                        rfl
                      subst hRe
                      have hxs : (t.extract f i).size ≤ 100000 := by have := HSZ.out; rw [ByteArray.size_extract]; omega
                      have HRE : Hid (∀ W, Rc W S t (e : Int) 0 v 0 b → Calls Tryz.prog 94 #[.pointer (some ⟨S, 0, none⟩), .string (t.extract f i)] W fun y w' => y = .returned (.tuple #[]) ∧ Rc w' S t (e : Int) (pgR 0 (t.extract f i)) v 0 b ∧ Gb S W w') := Lib.hid (fun W h => rregime_any S t (t.extract f i) (e : Int) 0 v 0 b W h hxs)
                      clear hxs
                      go_wp2_with (first | (go_at_call 53; (with_reducible refine (H3.out _).mono ?_); rintro e w' ⟨rfl, rfl⟩) | (go_at_call 56; (with_reducible refine HBO.out.mono ?_); (rintro e5 wb ⟨rfl, kb⟩); (have hRb := HSR.out.kept kb); (have d0 : wb.cell? ⟨S, 0, none⟩ = some (.string t) := Own.cell hRb 0); (have d1 : wb.cell? ⟨S, 1, none⟩ = some (.int .i64 (a : Int)) := Own.cell hRb 1); (have d2 : wb.cell? ⟨S, 2, none⟩ = some (.int .i64 0) := Own.cell hRb 2); (have fb := fun i => Own.frozen hRb i); (have lb := Own.lt hRb); (have HRB := Lib.hid hRb); (have HKB := Lib.hid kb); clear hRb kb) | (go_at_call 93; (with_reducible refine (H7.out _).mono ?_); rintro e w' ⟨rfl, rfl⟩) | (go_at_call 59; (with_reducible refine (H8.out _).mono ?_); rintro e w' ⟨rfl, rfl⟩) | (go_at_call 94; (have HRP : Rc (wb.setCell ⟨S, 1, none⟩ (.int .i64 (e : Int))) S t (e : Int) 0 v 0 b := Own.put HRB.out 1 (.int .i64 (e : Int))); (with_reducible refine (HRE.out _ HRP).mono ?_); (rintro e7 w7 ⟨rfl, hS7, hg7⟩)))
                      go_returns
                      have hgb : Gb S wr (wb.setCell ⟨S, 1, none⟩ (.int .i64 (e : Int))) := (Gb.of HKB.out).set (Or.inl rfl) _
                      have hgc := hgb.trans hg7
                      exact ⟨rfl, ⟨_, _, _, _, v, l, hS7, HSR.out.slgb HLR.out hgc, (fun _ => ⟨rfl, rfl, rfl, rfl⟩), (fun h => absurd rfl h)⟩, (HBB.out.mono (by omega)).trans (hgc.below hB (by omega))⟩
                · have hyx : (y.toList == x.toList) = false := by
                    rw [beq_eq_false_iff_ne, ByteArray.toList_eq, ByteArray.toList_eq]
                    exact fun h => hxy (bytes_inj h)
                  have hgo := HGO.out (fun h => hxy h.1)
                  clear hxy
                  by_cases hei2 : i < e
                  · have HG := Lib.hid (show rmE 0 t x a e = rmE 0 t x a f by rw [Nat.max_eq_right (by omega)] at hgo; exact hgo)
                    clear hgo
                    go_wp2_with (first | (go_at_call 53; (with_reducible refine (H3.out _).mono ?_); rintro e w' ⟨rfl, rfl⟩) | (go_at_call 56; (with_reducible refine HBO.out.mono ?_); (rintro e5 wb ⟨rfl, kb⟩); (have hRb := HSR.out.kept kb); (have d0 : wb.cell? ⟨S, 0, none⟩ = some (.string t) := Own.cell hRb 0); (have d1 : wb.cell? ⟨S, 1, none⟩ = some (.int .i64 (a : Int)) := Own.cell hRb 1); (have d2 : wb.cell? ⟨S, 2, none⟩ = some (.int .i64 0) := Own.cell hRb 2); (have fb := fun i => Own.frozen hRb i); (have lb := Own.lt hRb); (have HRB := Lib.hid hRb); (have HKB := Lib.hid kb); clear hRb kb) | (go_at_call 93; (with_reducible refine (H7.out _).mono ?_); rintro e w' ⟨rfl, rfl⟩) | (go_at_call 59; (with_reducible refine (H8.out _).mono ?_); rintro e w' ⟨rfl, rfl⟩))
                    go_roundw
                    case rel => exact ⟨e, (by have := HFI.out; omega), by omega, HG.out, by go_num, HBB.out.trans (HKB.out.mono hzr)⟩
                    case measure => simp [intOf]; omega
                  · have HG := Lib.hid (show rmE 0 t x a (i + 1) = rmE 0 t x a f by rw [Nat.max_eq_left (by omega)] at hgo; exact hgo)
                    clear hgo
                    go_wp2_with (first | (go_at_call 53; (with_reducible refine (H3.out _).mono ?_); rintro e w' ⟨rfl, rfl⟩) | (go_at_call 56; (with_reducible refine HBO.out.mono ?_); (rintro e5 wb ⟨rfl, kb⟩); (have hRb := HSR.out.kept kb); (have d0 : wb.cell? ⟨S, 0, none⟩ = some (.string t) := Own.cell hRb 0); (have d1 : wb.cell? ⟨S, 1, none⟩ = some (.int .i64 (a : Int)) := Own.cell hRb 1); (have d2 : wb.cell? ⟨S, 2, none⟩ = some (.int .i64 0) := Own.cell hRb 2); (have fb := fun i => Own.frozen hRb i); (have lb := Own.lt hRb); (have HRB := Lib.hid hRb); (have HKB := Lib.hid kb); clear hRb kb) | (go_at_call 93; (with_reducible refine (H7.out _).mono ?_); rintro e w' ⟨rfl, rfl⟩) | (go_at_call 59; (with_reducible refine (H8.out _).mono ?_); rintro e w' ⟨rfl, rfl⟩))
                    go_roundw
                    case rel => exact ⟨i + 1, (by have := HFI.out; omega), by omega, HG.out, by go_num, HBB.out.trans (HKB.out.mono hzr)⟩
                    case measure => simp [intOf]; omega
              · rw [hs, hd] at hjv
                rw [hs] at h7
                rw [hd] at h8
                have H7 := Lib.hid h7
                have H8 := Lib.hid h8
                subst hjv
                clear h7 h8 hs hd
                by_cases hxy : y = x
                · subst hxy
                  have hei2 : i < e := HUP.out HX0.out
                  have HG := Lib.hid (show rmE 0 t y a e = rmE 0 t y a f by have := HGO.out (fun h => by cases h.2); rw [Nat.max_eq_right (by omega)] at this; exact this)
                  go_wp2_with (first | (go_at_call 53; (with_reducible refine (H3.out _).mono ?_); rintro e w' ⟨rfl, rfl⟩) | (go_at_call 56; (with_reducible refine HBO.out.mono ?_); (rintro e5 wb ⟨rfl, kb⟩); (have hRb := HSR.out.kept kb); (have d0 : wb.cell? ⟨S, 0, none⟩ = some (.string t) := Own.cell hRb 0); (have d1 : wb.cell? ⟨S, 1, none⟩ = some (.int .i64 (a : Int)) := Own.cell hRb 1); (have d2 : wb.cell? ⟨S, 2, none⟩ = some (.int .i64 0) := Own.cell hRb 2); (have fb := fun i => Own.frozen hRb i); (have lb := Own.lt hRb); (have HRB := Lib.hid hRb); (have HKB := Lib.hid kb); clear hRb kb) | (go_at_call 93; (with_reducible refine (H7.out _).mono ?_); rintro e w' ⟨rfl, rfl⟩) | (go_at_call 59; (with_reducible refine (H8.out _).mono ?_); rintro e w' ⟨rfl, rfl⟩))
                  go_roundw
                  case rel => exact ⟨e, (by have := HFI.out; omega), by omega, HG.out, by go_num, HBB.out.trans (HKB.out.mono hzr)⟩
                  case measure => simp [intOf]; omega
                · have hyx : (y.toList == x.toList) = false := by
                    rw [beq_eq_false_iff_ne, ByteArray.toList_eq, ByteArray.toList_eq]
                    exact fun h => hxy (bytes_inj h)
                  have hgo := HGO.out (fun h => hxy h.1)
                  clear hxy
                  by_cases hei2 : i < e
                  · have HG := Lib.hid (show rmE 0 t x a e = rmE 0 t x a f by rw [Nat.max_eq_right (by omega)] at hgo; exact hgo)
                    clear hgo
                    go_wp2_with (first | (go_at_call 53; (with_reducible refine (H3.out _).mono ?_); rintro e w' ⟨rfl, rfl⟩) | (go_at_call 56; (with_reducible refine HBO.out.mono ?_); (rintro e5 wb ⟨rfl, kb⟩); (have hRb := HSR.out.kept kb); (have d0 : wb.cell? ⟨S, 0, none⟩ = some (.string t) := Own.cell hRb 0); (have d1 : wb.cell? ⟨S, 1, none⟩ = some (.int .i64 (a : Int)) := Own.cell hRb 1); (have d2 : wb.cell? ⟨S, 2, none⟩ = some (.int .i64 0) := Own.cell hRb 2); (have fb := fun i => Own.frozen hRb i); (have lb := Own.lt hRb); (have HRB := Lib.hid hRb); (have HKB := Lib.hid kb); clear hRb kb) | (go_at_call 93; (with_reducible refine (H7.out _).mono ?_); rintro e w' ⟨rfl, rfl⟩) | (go_at_call 59; (with_reducible refine (H8.out _).mono ?_); rintro e w' ⟨rfl, rfl⟩))
                    go_roundw
                    case rel => exact ⟨e, (by have := HFI.out; omega), by omega, HG.out, by go_num, HBB.out.trans (HKB.out.mono hzr)⟩
                    case measure => simp [intOf]; omega
                  · have HG := Lib.hid (show rmE 0 t x a (i + 1) = rmE 0 t x a f by rw [Nat.max_eq_left (by omega)] at hgo; exact hgo)
                    clear hgo
                    go_wp2_with (first | (go_at_call 53; (with_reducible refine (H3.out _).mono ?_); rintro e w' ⟨rfl, rfl⟩) | (go_at_call 56; (with_reducible refine HBO.out.mono ?_); (rintro e5 wb ⟨rfl, kb⟩); (have hRb := HSR.out.kept kb); (have d0 : wb.cell? ⟨S, 0, none⟩ = some (.string t) := Own.cell hRb 0); (have d1 : wb.cell? ⟨S, 1, none⟩ = some (.int .i64 (a : Int)) := Own.cell hRb 1); (have d2 : wb.cell? ⟨S, 2, none⟩ = some (.int .i64 0) := Own.cell hRb 2); (have fb := fun i => Own.frozen hRb i); (have lb := Own.lt hRb); (have HRB := Lib.hid hRb); (have HKB := Lib.hid kb); clear hRb kb) | (go_at_call 93; (with_reducible refine (H7.out _).mono ?_); rintro e w' ⟨rfl, rfl⟩) | (go_at_call 59; (with_reducible refine (H8.out _).mono ?_); rintro e w' ⟨rfl, rfl⟩))
                    go_roundw
                    case rel => exact ⟨i + 1, (by have := HFI.out; omega), by omega, HG.out, by go_num, HBB.out.trans (HKB.out.mono hzr)⟩
                    case measure => simp [intOf]; omega
            · rw [hs] at hjv h7
              have H7 := Lib.hid h7
              have hjv2 : jb = true := by rw [hjv, Bool.true_or]
              clear hjv
              subst hjv2
              clear h7 h8 hs
              by_cases hxy : y = x
              · subst hxy
                have hei2 : i < e := HUP.out HX0.out
                have HG := Lib.hid (show rmE 0 t y a e = rmE 0 t y a f by have := HGO.out (fun h => by cases h.2); rw [Nat.max_eq_right (by omega)] at this; exact this)
                go_wp2_with (first | (go_at_call 53; (with_reducible refine (H3.out _).mono ?_); rintro e w' ⟨rfl, rfl⟩) | (go_at_call 56; (with_reducible refine HBO.out.mono ?_); (rintro e5 wb ⟨rfl, kb⟩); (have hRb := HSR.out.kept kb); (have d0 : wb.cell? ⟨S, 0, none⟩ = some (.string t) := Own.cell hRb 0); (have d1 : wb.cell? ⟨S, 1, none⟩ = some (.int .i64 (a : Int)) := Own.cell hRb 1); (have d2 : wb.cell? ⟨S, 2, none⟩ = some (.int .i64 0) := Own.cell hRb 2); (have fb := fun i => Own.frozen hRb i); (have lb := Own.lt hRb); (have HRB := Lib.hid hRb); (have HKB := Lib.hid kb); clear hRb kb) | (go_at_call 93; (with_reducible refine (H7.out _).mono ?_); rintro e w' ⟨rfl, rfl⟩))
                go_roundw
                case rel => exact ⟨e, (by have := HFI.out; omega), by omega, HG.out, by go_num, HBB.out.trans (HKB.out.mono hzr)⟩
                case measure => simp [intOf]; omega
              · have hyx : (y.toList == x.toList) = false := by
                  rw [beq_eq_false_iff_ne, ByteArray.toList_eq, ByteArray.toList_eq]
                  exact fun h => hxy (bytes_inj h)
                have hgo := HGO.out (fun h => hxy h.1)
                clear hxy
                by_cases hei2 : i < e
                · have HG := Lib.hid (show rmE 0 t x a e = rmE 0 t x a f by rw [Nat.max_eq_right (by omega)] at hgo; exact hgo)
                  clear hgo
                  go_wp2_with (first | (go_at_call 53; (with_reducible refine (H3.out _).mono ?_); rintro e w' ⟨rfl, rfl⟩) | (go_at_call 56; (with_reducible refine HBO.out.mono ?_); (rintro e5 wb ⟨rfl, kb⟩); (have hRb := HSR.out.kept kb); (have d0 : wb.cell? ⟨S, 0, none⟩ = some (.string t) := Own.cell hRb 0); (have d1 : wb.cell? ⟨S, 1, none⟩ = some (.int .i64 (a : Int)) := Own.cell hRb 1); (have d2 : wb.cell? ⟨S, 2, none⟩ = some (.int .i64 0) := Own.cell hRb 2); (have fb := fun i => Own.frozen hRb i); (have lb := Own.lt hRb); (have HRB := Lib.hid hRb); (have HKB := Lib.hid kb); clear hRb kb) | (go_at_call 93; (with_reducible refine (H7.out _).mono ?_); rintro e w' ⟨rfl, rfl⟩))
                  go_roundw
                  case rel => exact ⟨e, (by have := HFI.out; omega), by omega, HG.out, by go_num, HBB.out.trans (HKB.out.mono hzr)⟩
                  case measure => simp [intOf]; omega
                · have HG := Lib.hid (show rmE 0 t x a (i + 1) = rmE 0 t x a f by rw [Nat.max_eq_left (by omega)] at hgo; exact hgo)
                  clear hgo
                  go_wp2_with (first | (go_at_call 53; (with_reducible refine (H3.out _).mono ?_); rintro e w' ⟨rfl, rfl⟩) | (go_at_call 56; (with_reducible refine HBO.out.mono ?_); (rintro e5 wb ⟨rfl, kb⟩); (have hRb := HSR.out.kept kb); (have d0 : wb.cell? ⟨S, 0, none⟩ = some (.string t) := Own.cell hRb 0); (have d1 : wb.cell? ⟨S, 1, none⟩ = some (.int .i64 (a : Int)) := Own.cell hRb 1); (have d2 : wb.cell? ⟨S, 2, none⟩ = some (.int .i64 0) := Own.cell hRb 2); (have fb := fun i => Own.frozen hRb i); (have lb := Own.lt hRb); (have HRB := Lib.hid hRb); (have HKB := Lib.hid kb); clear hRb kb) | (go_at_call 93; (with_reducible refine (H7.out _).mono ?_); rintro e w' ⟨rfl, rfl⟩))
                  go_roundw
                  case rel => exact ⟨i + 1, (by have := HFI.out; omega), by omega, HG.out, by go_num, HBB.out.trans (HKB.out.mono hzr)⟩
                  case measure => simp [intOf]; omega
        · have hr0b : (r == 0) = false := by rw [beq_eq_false_iff_ne]; exact hr0
          have hj : jb = false := by
            rw [← HJB.out]
            unfold jn
            rw [hr0b, Bool.false_and]
          subst hj
          clear hjb hei hr0
          by_cases hxy : y = x
          · subst hxy
            have hei2 : i < e := HUP.out HX0.out
            cases b1
            · cases b2
              · have hRe : RR = ⟨r, (e : Int), l, 0, 0⟩ := by
                  rw [← HRR.out]
                  unfold rmR
                  rw [← HE.out, rm_end hit HTX.out (by rw [HY.out]) HJB.out, HY.out]
                  rfl
                subst hRe
                go_wp2_with (first | (go_at_call 53; (with_reducible refine (H3.out _).mono ?_); rintro e w' ⟨rfl, rfl⟩) | (go_at_call 56; (with_reducible refine HBO.out.mono ?_); (rintro e5 wb ⟨rfl, kb⟩); (have hRb := HSR.out.kept kb); (have d0 : wb.cell? ⟨S, 0, none⟩ = some (.string t) := Own.cell hRb 0); (have d1 : wb.cell? ⟨S, 1, none⟩ = some (.int .i64 (a : Int)) := Own.cell hRb 1); (have d2 : wb.cell? ⟨S, 2, none⟩ = some (.int .i64 r) := Own.cell hRb 2); (have fb := fun i => Own.frozen hRb i); (have lb := Own.lt hRb); (have HRB := Lib.hid hRb); (have HKB := Lib.hid kb); clear hRb kb))
                go_returns
                have hgb : Gb S wr (wb.setCell ⟨S, 1, none⟩ (.int .i64 (e : Int))) := (Gb.of HKB.out).set (Or.inl rfl) _
                exact ⟨rfl, ⟨_, _, _, _, v, l, Own.put HRB.out 1 (.int .i64 (e : Int)), HSR.out.slgb HLR.out hgb, (fun _ => ⟨rfl, rfl, rfl, rfl⟩), (fun h => absurd rfl h)⟩, (HBB.out.mono (by omega)).trans (hgb.below hB (by omega))⟩
              · have hRe : RR = ⟨pgR r (t.extract f i), (e : Int), l, 0, 0⟩ := by
                  rw [← HRR.out]
                  unfold rmR
                  rw [← HE.out, rm_end hit HTX.out (by rw [HY.out]) HJB.out, HY.out]
                  rfl
                subst hRe
                have hxs : (t.extract f i).size ≤ 100000 := by have := HSZ.out; rw [ByteArray.size_extract]; omega
                have HRE : Hid (∀ W, Rc W S t (e : Int) r v 0 b → Calls Tryz.prog 94 #[.pointer (some ⟨S, 0, none⟩), .string (t.extract f i)] W fun y w' => y = .returned (.tuple #[]) ∧ Rc w' S t (e : Int) (pgR r (t.extract f i)) v 0 b ∧ Gb S W w') := Lib.hid (fun W h => rregime_any S t (t.extract f i) (e : Int) r v 0 b W h hxs)
                clear hxs
                go_wp2_with (first | (go_at_call 53; (with_reducible refine (H3.out _).mono ?_); rintro e w' ⟨rfl, rfl⟩) | (go_at_call 56; (with_reducible refine HBO.out.mono ?_); (rintro e5 wb ⟨rfl, kb⟩); (have hRb := HSR.out.kept kb); (have d0 : wb.cell? ⟨S, 0, none⟩ = some (.string t) := Own.cell hRb 0); (have d1 : wb.cell? ⟨S, 1, none⟩ = some (.int .i64 (a : Int)) := Own.cell hRb 1); (have d2 : wb.cell? ⟨S, 2, none⟩ = some (.int .i64 r) := Own.cell hRb 2); (have fb := fun i => Own.frozen hRb i); (have lb := Own.lt hRb); (have HRB := Lib.hid hRb); (have HKB := Lib.hid kb); clear hRb kb) | (go_at_call 94; (have HRP : Rc (wb.setCell ⟨S, 1, none⟩ (.int .i64 (e : Int))) S t (e : Int) r v 0 b := Own.put HRB.out 1 (.int .i64 (e : Int))); (with_reducible refine (HRE.out _ HRP).mono ?_); (rintro e7 w7 ⟨rfl, hS7, hg7⟩)))
                go_returns
                have hgb : Gb S wr (wb.setCell ⟨S, 1, none⟩ (.int .i64 (e : Int))) := (Gb.of HKB.out).set (Or.inl rfl) _
                have hgc := hgb.trans hg7
                exact ⟨rfl, ⟨_, _, _, _, v, l, hS7, HSR.out.slgb HLR.out hgc, (fun _ => ⟨rfl, rfl, rfl, rfl⟩), (fun h => absurd rfl h)⟩, (HBB.out.mono (by omega)).trans (hgc.below hB (by omega))⟩
            · cases b2
              · have hRe : RR = ⟨pgR r (t.extract f i), (e : Int), l, 0, 0⟩ := by
                  rw [← HRR.out]
                  unfold rmR
                  rw [← HE.out, rm_end hit HTX.out (by rw [HY.out]) HJB.out, HY.out]
                  rfl
                subst hRe
                have hxs : (t.extract f i).size ≤ 100000 := by have := HSZ.out; rw [ByteArray.size_extract]; omega
                have HRE : Hid (∀ W, Rc W S t (e : Int) r v 0 b → Calls Tryz.prog 94 #[.pointer (some ⟨S, 0, none⟩), .string (t.extract f i)] W fun y w' => y = .returned (.tuple #[]) ∧ Rc w' S t (e : Int) (pgR r (t.extract f i)) v 0 b ∧ Gb S W w') := Lib.hid (fun W h => rregime_any S t (t.extract f i) (e : Int) r v 0 b W h hxs)
                clear hxs
                go_wp2_with (first | (go_at_call 53; (with_reducible refine (H3.out _).mono ?_); rintro e w' ⟨rfl, rfl⟩) | (go_at_call 56; (with_reducible refine HBO.out.mono ?_); (rintro e5 wb ⟨rfl, kb⟩); (have hRb := HSR.out.kept kb); (have d0 : wb.cell? ⟨S, 0, none⟩ = some (.string t) := Own.cell hRb 0); (have d1 : wb.cell? ⟨S, 1, none⟩ = some (.int .i64 (a : Int)) := Own.cell hRb 1); (have d2 : wb.cell? ⟨S, 2, none⟩ = some (.int .i64 r) := Own.cell hRb 2); (have fb := fun i => Own.frozen hRb i); (have lb := Own.lt hRb); (have HRB := Lib.hid hRb); (have HKB := Lib.hid kb); clear hRb kb) | (go_at_call 94; (have HRP : Rc (wb.setCell ⟨S, 1, none⟩ (.int .i64 (e : Int))) S t (e : Int) r v 0 b := Own.put HRB.out 1 (.int .i64 (e : Int))); (with_reducible refine (HRE.out _ HRP).mono ?_); (rintro e7 w7 ⟨rfl, hS7, hg7⟩)))
                go_returns
                have hgb : Gb S wr (wb.setCell ⟨S, 1, none⟩ (.int .i64 (e : Int))) := (Gb.of HKB.out).set (Or.inl rfl) _
                have hgc := hgb.trans hg7
                exact ⟨rfl, ⟨_, _, _, _, v, l, hS7, HSR.out.slgb HLR.out hgc, (fun _ => ⟨rfl, rfl, rfl, rfl⟩), (fun h => absurd rfl h)⟩, (HBB.out.mono (by omega)).trans (hgc.below hB (by omega))⟩
              · have hRe : RR = ⟨pgR r (t.extract f i), (e : Int), l, 0, 0⟩ := by
                  rw [← HRR.out]
                  unfold rmR
                  rw [← HE.out, rm_end hit HTX.out (by rw [HY.out]) HJB.out, HY.out]
                  rfl
                subst hRe
                have hxs : (t.extract f i).size ≤ 100000 := by have := HSZ.out; rw [ByteArray.size_extract]; omega
                have HRE : Hid (∀ W, Rc W S t (e : Int) r v 0 b → Calls Tryz.prog 94 #[.pointer (some ⟨S, 0, none⟩), .string (t.extract f i)] W fun y w' => y = .returned (.tuple #[]) ∧ Rc w' S t (e : Int) (pgR r (t.extract f i)) v 0 b ∧ Gb S W w') := Lib.hid (fun W h => rregime_any S t (t.extract f i) (e : Int) r v 0 b W h hxs)
                clear hxs
                go_wp2_with (first | (go_at_call 53; (with_reducible refine (H3.out _).mono ?_); rintro e w' ⟨rfl, rfl⟩) | (go_at_call 56; (with_reducible refine HBO.out.mono ?_); (rintro e5 wb ⟨rfl, kb⟩); (have hRb := HSR.out.kept kb); (have d0 : wb.cell? ⟨S, 0, none⟩ = some (.string t) := Own.cell hRb 0); (have d1 : wb.cell? ⟨S, 1, none⟩ = some (.int .i64 (a : Int)) := Own.cell hRb 1); (have d2 : wb.cell? ⟨S, 2, none⟩ = some (.int .i64 r) := Own.cell hRb 2); (have fb := fun i => Own.frozen hRb i); (have lb := Own.lt hRb); (have HRB := Lib.hid hRb); (have HKB := Lib.hid kb); clear hRb kb) | (go_at_call 94; (have HRP : Rc (wb.setCell ⟨S, 1, none⟩ (.int .i64 (e : Int))) S t (e : Int) r v 0 b := Own.put HRB.out 1 (.int .i64 (e : Int))); (with_reducible refine (HRE.out _ HRP).mono ?_); (rintro e7 w7 ⟨rfl, hS7, hg7⟩)))
                go_returns
                have hgb : Gb S wr (wb.setCell ⟨S, 1, none⟩ (.int .i64 (e : Int))) := (Gb.of HKB.out).set (Or.inl rfl) _
                have hgc := hgb.trans hg7
                exact ⟨rfl, ⟨_, _, _, _, v, l, hS7, HSR.out.slgb HLR.out hgc, (fun _ => ⟨rfl, rfl, rfl, rfl⟩), (fun h => absurd rfl h)⟩, (HBB.out.mono (by omega)).trans (hgc.below hB (by omega))⟩
          · have hyx : (y.toList == x.toList) = false := by
              rw [beq_eq_false_iff_ne, ByteArray.toList_eq, ByteArray.toList_eq]
              exact fun h => hxy (bytes_inj h)
            have hgo := HGO.out (fun h => hxy h.1)
            clear hxy
            by_cases hei2 : i < e
            · have HG := Lib.hid (show rmE r t x a e = rmE r t x a f by rw [Nat.max_eq_right (by omega)] at hgo; exact hgo)
              clear hgo
              go_wp2_with (first | (go_at_call 53; (with_reducible refine (H3.out _).mono ?_); rintro e w' ⟨rfl, rfl⟩) | (go_at_call 56; (with_reducible refine HBO.out.mono ?_); (rintro e5 wb ⟨rfl, kb⟩); (have hRb := HSR.out.kept kb); (have d0 : wb.cell? ⟨S, 0, none⟩ = some (.string t) := Own.cell hRb 0); (have d1 : wb.cell? ⟨S, 1, none⟩ = some (.int .i64 (a : Int)) := Own.cell hRb 1); (have d2 : wb.cell? ⟨S, 2, none⟩ = some (.int .i64 r) := Own.cell hRb 2); (have fb := fun i => Own.frozen hRb i); (have lb := Own.lt hRb); (have HRB := Lib.hid hRb); (have HKB := Lib.hid kb); clear hRb kb))
              go_roundw
              case rel => exact ⟨e, (by have := HFI.out; omega), by omega, HG.out, by go_num, HBB.out.trans (HKB.out.mono hzr)⟩
              case measure => simp [intOf]; omega
            · have HG := Lib.hid (show rmE r t x a (i + 1) = rmE r t x a f by rw [Nat.max_eq_left (by omega)] at hgo; exact hgo)
              clear hgo
              go_wp2_with (first | (go_at_call 53; (with_reducible refine (H3.out _).mono ?_); rintro e w' ⟨rfl, rfl⟩) | (go_at_call 56; (with_reducible refine HBO.out.mono ?_); (rintro e5 wb ⟨rfl, kb⟩); (have hRb := HSR.out.kept kb); (have d0 : wb.cell? ⟨S, 0, none⟩ = some (.string t) := Own.cell hRb 0); (have d1 : wb.cell? ⟨S, 1, none⟩ = some (.int .i64 (a : Int)) := Own.cell hRb 1); (have d2 : wb.cell? ⟨S, 2, none⟩ = some (.int .i64 r) := Own.cell hRb 2); (have fb := fun i => Own.frozen hRb i); (have lb := Own.lt hRb); (have HRB := Lib.hid hRb); (have HKB := Lib.hid kb); clear hRb kb))
              go_roundw
              case rel => exact ⟨i + 1, (by have := HFI.out; omega), by omega, HG.out, by go_num, HBB.out.trans (HKB.out.mono hzr)⟩
              case measure => simp [intOf]; omega
    · have hge : t.size ≤ i := by omega
      have hRe : RR = ⟨r, (a : Int), l, (a : Int), 16⟩ := by
        rw [← HRR.out]
        unfold rmR
        rw [← HE.out, rm_out hge]
        rfl
      subst hRe
      have HFA := Lib.hid (fail_new S t (a : Int) r v b 16 (a : Int) wr HSR.out)
      go_wp2_with (first | (go_at_call 54; (with_reducible refine HFA.out.mono ?_); (rintro e5 w5 ⟨rfl, hS5, hg5⟩)))
      go_returns
      exact ⟨rfl, ⟨_, _, _, _, v, l, hS5, HSR.out.slgb HLR.out hg5, (fun h => absurd h (show ¬ ((16 : Int) = 0) by decide)), (fun _ => ⟨rfl, rfl⟩)⟩, (HBB.out.mono (by omega)).trans (hg5.below hB (by omega))⟩
end Go.Proofs.YtbnldpcbdeeflaaGreatDoor
