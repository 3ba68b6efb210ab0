/- The scanner's walk over a comment or a pragmat. Condition: the scanner's block and its list lie in blocks of the call's own. -/
import Derived.Test.YtbnldpcbdeeflaaGreatDoorRm
namespace Go.Proofs.YtbnldpcbdeeflaaGreatDoor
open Go.ChangeShapes Go.WideShapes Go.ChangeAt Go.RowKit

theorem Own.gb {w w' : World} {S g : Nat} {T : TypeId} {c : List Value} (h : Own w g T c) (k : Gb S w w') (hne : g ≠ S) : Own w' g T c := (k.block g h.lt (fun e => hne (Option.some.inj e))).trans h
set_option maxRecDepth 100000 in
set_option maxHeartbeats 8000000 in
theorem remark_any (B S a f : Nat) (t x : ByteArray) (b : Bool) (r : Int) (v : Value) (l : List Sy) (w : World) (hS : Sc w S t r (a : Int) v) (hL : Sl w B v l) (hB : B ≤ S) (hl : t.size ≤ 100000) (hf1 : 1 ≤ f) (hf2 : f ≤ t.size) :
    Calls Tryz.prog 91 #[.pointer (some ⟨S, 0, none⟩), .string x, .int .i64 (f : Int), .bool b] w (Stp B S t w (rmR r t x a f b l)) := by
  have hlt := hS.lt
  have hb0 := (Below.refl w.heap.size w).alloc (Nat.le_refl _) (.cells #[.int .i64 0, .int .i64 0] 26)
  have hR0 := Own.new w 26 [.int .i64 0, .int .i64 0]
  have HS := Lib.hid hS
  have HL := Lib.hid hL
  have HB0 := Lib.hid hb0
  have HR0 := Lib.hid hR0
  have HSZ := Lib.hid hl
  clear hS hL hb0 hR0
  go_enter Tryz.func91, Tryz.ntmps91
  go_wp2
  go_loopw [9] (fun v9 wr => ∃ i : Nat, f ≤ i ∧ i ≤ t.size ∧ rmE r t x a i = rmE r t x a f ∧ (∀ j, f ≤ j → j < i → pk t j < 128) ∧ v9 = .int .i64 i ∧ Below w.heap.size w wr ∧ Own wr w.heap.size 26 [.int .i64 0, .int .i64 0]) (fun v9 _ => t.size - (intOf v9).toNat)
  case atStart => exact ⟨f, Nat.le_refl _, hf2, rfl, fun j h1 h2 => by omega, rfl, HB0.out, HR0.out⟩
  case round =>
    obtain ⟨i, hfi, hi, he, has, rfl, hb, hR⟩ := hrel
    have HE := Lib.hid he
    have HAS := Lib.hid has
    have HBB := Lib.hid hb
    have HRR := Lib.hid hR
    have hzr := hb.size
    have hSr := Own.kept HS.out hb
    have c0 : wr.cell? ⟨S, 0, none⟩ = some (.string t) := Own.cell hSr 0
    have c1 : wr.cell? ⟨S, 1, none⟩ = some (.int .i64 r) := Own.cell hSr 1
    have c2 : wr.cell? ⟨S, 2, none⟩ = some (.int .i64 (a : Int)) := Own.cell hSr 2
    have e0 : wr.cell? ⟨w.heap.size, 0, none⟩ = some (.int .i64 0) := Own.cell hR 0
    have e1 : wr.cell? ⟨w.heap.size, 1, none⟩ = some (.int .i64 0) := Own.cell hR 1
    have ef := fun i => Own.frozen hR i
    have el := Own.lt hR
    have HSR := Lib.hid hSr
    have hi9 : (i : Int) < 100001 := by have := HSZ.out; omega
    clear he has hb hR hSr
    rcases Nat.lt_or_ge i t.size with hit | hit
    · have hp := pk_bd t i
      have hpi := (pk_in hit).symm
      have HIT := Lib.hid hit
      obtain ⟨p, hpe⟩ : ∃ p, pk t i = p := ⟨_, rfl⟩
      have HP := Lib.hid hpe
      rw [hpe] at hp hpi
      have HT := Lib.hid (fun w => by_tx p w hp.1 hp.2)
      clear hpe
      cases ht : bTx p
      · rw [ht] at HT
        have HRS : Hid (rmR r t x a f b l = ⟨r, a, l, i, 2⟩) := Lib.hid (by unfold rmR; rw [← HE.out, rm_bad HIT.out (by rw [HP.out]; exact ht)]; rfl)
        go_wp2_with ((go_at_call 77; (with_reducible refine (HT.out _).mono ?_); rintro e w' ⟨rfl, rfl⟩))
        have hF := ((HRR.out.put 0 (.int .i64 (i : Int))).put 1 (.int .i64 2))
        refine bodyPost_ret (ret_own rfl hF rfl Tryz.underlying26 rfl (by kernel_rfl)) rfl ?_
        rw [HRS.out]
        have hB2 := (HBB.out.setCell (p := ⟨w.heap.size, 0, none⟩) (Nat.le_refl _) (.int .i64 (i : Int))).setCell (p := ⟨w.heap.size, 1, none⟩) (Nat.le_refl _) (.int .i64 2)
        exact Stp.gb HS.out HL.out hB rfl (Own.kept HS.out hB2) (Gb.of hB2)
      · rw [ht] at HT
        have htx : bTx (pk t i) = true := by rw [HP.out]; exact ht
        have HTX := Lib.hid htx
        have hbe := bd_end r t i hit
        have hba := bd_asc r t i htx
        have hbo := bold_any t S i r wr c0 c1 HSZ.out hi
        obtain ⟨⟨y, e⟩, hy⟩ : ∃ q, bdF r t i = q := ⟨_, rfl⟩
        have HY := Lib.hid hy
        rw [hy] at hbe hba hbo
        simp only at hbe hba hbo
        obtain ⟨hie, het⟩ := hbe
        have HBA := Lib.hid hba
        have HBO := Lib.hid hbo
        have he9 : (e : Int) < 100001 := by have := HSZ.out; omega
        obtain ⟨jb, hjb⟩ : ∃ q, jn r t i = q := ⟨_, rfl⟩
        have HJB := Lib.hid hjb
        have HJ : Hid (∀ W, Below w.heap.size w W → Calls Tryz.prog 117 #[.pointer (some ⟨S, 0, none⟩), .int .i64 (i : Int)] W fun e w' => e = .returned (.bool jb) ∧ W = w') := Lib.hid (fun W hb => by have := joined_any t S i r W (Own.cell (Own.kept HS.out hb) 0) (Own.cell (Own.kept HS.out hb) 1) HSZ.out (by omega) hi; rwa [HJB.out] at this)
        have hne2 : S ≠ w.heap.size := by omega
        have HGO : Hid (¬ (y = x ∧ jb = false) → rmE r t x a (max (i + 1) e) = rmE r t x a f) := Lib.hid (fun h => by rw [← HE.out, rm_go HIT.out HTX.out (by rw [HY.out, HJB.out]; exact h), HY.out])
        have HAN : Hid (∀ j, f ≤ j → j < max (i + 1) e → pk t j < 128) := Lib.hid (fun j h1 h2 => by
          rcases Nat.lt_or_ge j i with h3 | h3
          · exact HAS.out j h1 h3
          · by_cases h4 : j = i
            · rw [h4]; exact tx_asc HTX.out
            · exact HBA.out j h3 (by omega))
        clear hba hbo hy hjb htx ht c0 c1 c2 e0 e1 ef el
        by_cases hxy : y = x
        · subst hxy
          cases hj : jb
          · rw [hj] at HJ
            have HEN : Hid (rmE r t y a f = (0, 0, i, e)) := Lib.hid (by rw [← HE.out, rm_end HIT.out HTX.out (by rw [HY.out]) (by rw [HJB.out]; exact hj), HY.out])
            clear hj
            have c0 : wr.cell? ⟨S, 0, none⟩ = some (.string t) := Own.cell HSR.out 0
            cases b
            · have HRS : Hid (rmR r t y a f false l = ⟨r, e, l, 0, 0⟩) := Lib.hid (by unfold rmR; rw [HEN.out]; rfl)
              go_wp2_with (first | (go_at_call 77; (with_reducible refine (HT.out _).mono ?_); rintro e w' ⟨rfl, rfl⟩) | (go_at_call 49; (with_reducible refine HBO.out.mono ?_); rintro e wb ⟨rfl, kb⟩; (have hbb := Below.call HBB.out HBB.out.size kb); (have hzb := hbb.size); (have HRB := Lib.hid (HRR.out.kept kb)); (have HSB := Lib.hid (Own.kept HS.out hbb)); (have b0 : wb.cell? ⟨S, 0, none⟩ = some (.string t) := Own.cell HSB.out 0); (have b2 : wb.cell? ⟨S, 2, none⟩ = some (.int .i64 (a : Int)) := Own.cell HSB.out 2); (have g0 : wb.cell? ⟨w.heap.size, 0, none⟩ = some (.int .i64 0) := Own.cell HRB.out 0); (have g1 : wb.cell? ⟨w.heap.size, 1, none⟩ = some (.int .i64 0) := Own.cell HRB.out 1); (have gf := fun i => Own.frozen HRB.out i); (have gs := fun i => Own.frozen HSB.out i); (have gl := Own.lt HRB.out); (have gsl := Own.lt HSB.out)) | (go_at_call 117; (with_reducible refine (HJ.out wb hbb).mono ?_); rintro e w' ⟨rfl, rfl⟩))
              have hF := ((HRB.out.far (p := ⟨S, 2, none⟩) (fun e => hne2 e.symm) (.int .i64 (e : Int))).put 0 (.int .i64 0)).put 1 (.int .i64 0)
              refine bodyPost_ret (ret_own rfl hF rfl Tryz.underlying26 rfl (by kernel_rfl)) rfl ?_
              rw [HRS.out]
              exact Stp.gb HS.out HL.out hB rfl (((Own.put HSB.out 2 (.int .i64 (e : Int))).far hne2 _).far hne2 _) ((((Gb.of hbb).set (Or.inl rfl) _).set (Or.inr (Nat.le_refl _)) _).set (Or.inr (Nat.le_refl _)) _)
            · have HRS : Hid (rmR r t y a f true l = ⟨pgR r (t.extract f i), e, l, 0, 0⟩) := Lib.hid (by unfold rmR; rw [HEN.out]; rfl)
              have hxs : (t.extract f i).size ≤ 100000 := by have := HSZ.out; rw [ByteArray.size_extract]; omega
              have HXA := Lib.hid (ext_asc t f i HAS.out hi)
              have HSE : Hid (∀ W, Below w.heap.size w W → Calls Tryz.prog 118 #[.pointer (some ⟨S, 0, none⟩), .string (t.extract f i)] W fun e w' => e = .returned (.tuple #[]) ∧ Sc w' S t (pgR r (t.extract f i)) a v ∧ Gb S W w') := Lib.hid (fun W hb => set_any S t _ r a v W (Own.kept HS.out hb) hxs HXA.out)
              clear hxs
              go_wp2_with (first | (go_at_call 77; (with_reducible refine (HT.out _).mono ?_); rintro e w' ⟨rfl, rfl⟩) | (go_at_call 49; (with_reducible refine HBO.out.mono ?_); rintro e wb ⟨rfl, kb⟩; (have hbb := Below.call HBB.out HBB.out.size kb); (have hzb := hbb.size); (have HRB := Lib.hid (HRR.out.kept kb)); (have HSB := Lib.hid (Own.kept HS.out hbb)); (have b0 : wb.cell? ⟨S, 0, none⟩ = some (.string t) := Own.cell HSB.out 0); (have b2 : wb.cell? ⟨S, 2, none⟩ = some (.int .i64 (a : Int)) := Own.cell HSB.out 2); (have g0 : wb.cell? ⟨w.heap.size, 0, none⟩ = some (.int .i64 0) := Own.cell HRB.out 0); (have g1 : wb.cell? ⟨w.heap.size, 1, none⟩ = some (.int .i64 0) := Own.cell HRB.out 1); (have gf := fun i => Own.frozen HRB.out i); (have gs := fun i => Own.frozen HSB.out i); (have gl := Own.lt HRB.out); (have gsl := Own.lt HSB.out)) | (go_at_call 117; (with_reducible refine (HJ.out wb hbb).mono ?_); rintro e w' ⟨rfl, rfl⟩) | (go_at_call 118; (with_reducible refine (HSE.out wb hbb).mono ?_); rintro e w2 ⟨rfl, hs2, hg2⟩; (have HS2 := Lib.hid hs2); (have HR2 := Lib.hid (HRB.out.gb hg2 (fun e => hne2 e.symm))); (have hz2 := hg2.size); (have d2 : w2.cell? ⟨S, 2, none⟩ = some (.int .i64 (a : Int)) := Own.cell HS2.out 2); (have d3 : w2.cell? ⟨w.heap.size, 0, none⟩ = some (.int .i64 0) := Own.cell HR2.out 0); (have d4 : w2.cell? ⟨w.heap.size, 1, none⟩ = some (.int .i64 0) := Own.cell HR2.out 1); (have df := fun i => Own.frozen HR2.out i); (have ds := fun i => Own.frozen HS2.out i); clear hs2))
              have hF := ((HR2.out.far (p := ⟨S, 2, none⟩) (fun e => hne2 e.symm) (.int .i64 (e : Int))).put 0 (.int .i64 0)).put 1 (.int .i64 0)
              refine bodyPost_ret (ret_own rfl hF rfl Tryz.underlying26 rfl (by kernel_rfl)) rfl ?_
              rw [HRS.out]
              exact Stp.gb HS.out HL.out hB rfl (((Own.put HS2.out 2 (.int .i64 (e : Int))).far hne2 _).far hne2 _) (((((Gb.of hbb).trans hg2).set (Or.inl rfl) _).set (Or.inr (Nat.le_refl _)) _).set (Or.inr (Nat.le_refl _)) _)
          · rw [hj] at HJ
            have HG := Lib.hid (HGO.out (fun h => by rw [hj] at h; cases h.2))
            clear hj
            have c0 : wr.cell? ⟨S, 0, none⟩ = some (.string t) := Own.cell HSR.out 0
            go_wp2_with (first | (go_at_call 77; (with_reducible refine (HT.out _).mono ?_); rintro e w' ⟨rfl, rfl⟩) | (go_at_call 49; (with_reducible refine HBO.out.mono ?_); rintro e wb ⟨rfl, kb⟩; (have hbb := Below.call HBB.out HBB.out.size kb); (have hzb := hbb.size); (have HRB := Lib.hid (HRR.out.kept kb)); (have HSB := Lib.hid (Own.kept HS.out hbb)); (have b0 : wb.cell? ⟨S, 0, none⟩ = some (.string t) := Own.cell HSB.out 0); (have b2 : wb.cell? ⟨S, 2, none⟩ = some (.int .i64 (a : Int)) := Own.cell HSB.out 2); (have g0 : wb.cell? ⟨w.heap.size, 0, none⟩ = some (.int .i64 0) := Own.cell HRB.out 0); (have g1 : wb.cell? ⟨w.heap.size, 1, none⟩ = some (.int .i64 0) := Own.cell HRB.out 1); (have gf := fun i => Own.frozen HRB.out i); (have gs := fun i => Own.frozen HSB.out i); (have gl := Own.lt HRB.out); (have gsl := Own.lt HSB.out)) | (go_at_call 117; (with_reducible refine (HJ.out wb hbb).mono ?_); rintro e w' ⟨rfl, rfl⟩))
            go_roundw
            case rel => exact ⟨max (i + 1) e, by omega, by omega, HG.out, HAN.out, by go_num, hbb, HRB.out⟩
            case measure => have := HIT.out; simp [intOf]; omega
        · have hyx : (y.toList == x.toList) = false := by
            rw [beq_eq_false_iff_ne, ByteArray.toList_eq, ByteArray.toList_eq]
            exact fun h => hxy (bytes_inj h)
          have HG := Lib.hid (HGO.out (fun h => hxy h.1))
          clear hxy
          have c0 : wr.cell? ⟨S, 0, none⟩ = some (.string t) := Own.cell HSR.out 0
          go_wp2_with (first | (go_at_call 77; (with_reducible refine (HT.out _).mono ?_); rintro e w' ⟨rfl, rfl⟩) | (go_at_call 49; (with_reducible refine HBO.out.mono ?_); rintro e wb ⟨rfl, kb⟩; (have hbb := Below.call HBB.out HBB.out.size kb); (have hzb := hbb.size); (have HRB := Lib.hid (HRR.out.kept kb)); (have HSB := Lib.hid (Own.kept HS.out hbb)); (have b0 : wb.cell? ⟨S, 0, none⟩ = some (.string t) := Own.cell HSB.out 0); (have b2 : wb.cell? ⟨S, 2, none⟩ = some (.int .i64 (a : Int)) := Own.cell HSB.out 2); (have g0 : wb.cell? ⟨w.heap.size, 0, none⟩ = some (.int .i64 0) := Own.cell HRB.out 0); (have g1 : wb.cell? ⟨w.heap.size, 1, none⟩ = some (.int .i64 0) := Own.cell HRB.out 1); (have gf := fun i => Own.frozen HRB.out i); (have gs := fun i => Own.frozen HSB.out i); (have gl := Own.lt HRB.out); (have gsl := Own.lt HSB.out)) | (go_at_call 117; (with_reducible refine (HJ.out wb hbb).mono ?_); rintro e w' ⟨rfl, rfl⟩))
          go_roundw
          case rel => exact ⟨max (i + 1) e, by omega, by omega, HG.out, HAN.out, by go_num, hbb, HRB.out⟩
          case measure => have := HIT.out; simp [intOf]; omega
    · have HRS : Hid (rmR r t x a f b l = ⟨r, a, l, a, 16⟩) := Lib.hid (by unfold rmR; rw [← HE.out, rm_out hit]; rfl)
      have HFA := Lib.hid (fun e W hb => fault_at c2 e W hb)
      clear c1 c2 e0 e1 ef el
      have hii : i = t.size := by omega
      subst hii
      clear hi hit
      go_wp2_with (first | (go_at_call 78; (with_reducible refine (HFA.out 16 _ (Below.refl _ _)).mono ?_); rintro e wf ⟨rfl, kf⟩; (have hbf := Below.call HBB.out HBB.out.size kf); (have hzf := hbf.size); (have hRf := HRR.out.kept kf); (have g0 : wf.cell? ⟨w.heap.size, 0, none⟩ = some (.int .i64 0) := Own.cell hRf 0); (have g1 : wf.cell? ⟨w.heap.size, 1, none⟩ = some (.int .i64 0) := Own.cell hRf 1); (have gf := fun i => Own.frozen hRf i); (have gl := Own.lt hRf); (have HRf := Lib.hid hRf); clear hRf))
      have hF := (HRf.out.put 0 (.int .i64 (a : Int))).put 1 (.int .i64 16)
      refine bodyPost_ret (ret_own rfl hF rfl Tryz.underlying26 rfl (by kernel_rfl)) rfl ?_
      rw [HRS.out]
      have hB2 := (hbf.setCell (p := ⟨w.heap.size, 0, none⟩) (Nat.le_refl _) (.int .i64 (a : Int))).setCell (p := ⟨w.heap.size, 1, none⟩) (Nat.le_refl _) (.int .i64 16)
      exact Stp.gb HS.out HL.out hB rfl (Own.kept HS.out hB2) (Gb.of hB2)
end Go.Proofs.YtbnldpcbdeeflaaGreatDoor
