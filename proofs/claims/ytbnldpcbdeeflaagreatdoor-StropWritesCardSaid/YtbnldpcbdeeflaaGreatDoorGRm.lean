/- The scanner's comments and pragmats. Condition: the scanner's block and its list lie in blocks of the call's own. -/
import Derived.Test.YtbnldpcbdeeflaaGreatDoorSn
namespace Go.Proofs.YtbnldpcbdeeflaaGreatDoor
open Go.ChangeShapes Go.WideShapes Go.ChangeAt Go.RowKit

theorem bd_end (r : Int) (t : ByteArray) (i : Nat) (hi : i < t.size) : i ≤ (bdF r t i).2 ∧ (bdF r t i).2 ≤ t.size := by
  have h1 := ru_ge bCd bCd0 t i
  have h2 := ru_le bCd bCd0 t i (by omega)
  have h3 := ru_ge bLd bLd0 t (i + 1)
  have h4 := ru_le bLd bLd0 t (i + 1) hi
  unfold bdF
  split
  · split
    · exact ⟨h1, h2⟩
    · exact ⟨Nat.le_refl _, Nat.le_of_lt hi⟩
  · split
    · split
      · rename_i h
        have h5 : ru bLd bLd0 t (i + 1) < t.size := by
          rcases Nat.lt_or_ge (ru bLd bLd0 t (i + 1)) t.size with h5 | h5
          · exact h5
          · have h6 := h.2.2
            rw [pk_out h5] at h6
            cases h6
        exact ⟨by show i ≤ _ + 1; omega, h5⟩
      · exact ⟨Nat.le_refl _, Nat.le_of_lt hi⟩
    · split
      · exact ⟨by show i ≤ ru bLd bLd0 t (i + 1); omega, h4⟩
      · exact ⟨Nat.le_refl _, Nat.le_of_lt hi⟩
theorem cd_asc {c : Int} (h : bCd c = true) : c < 128 := by
  unfold bCd bCa bDi at h
  simp only [Bool.or_eq_true, decide_eq_true_eq] at h
  omega
theorem ld_asc {c : Int} (h : bLd c = true) : c < 128 := by
  unfold bLd bLe bSm bCa bDi at h
  simp only [Bool.or_eq_true, decide_eq_true_eq] at h
  omega
theorem tx_asc {c : Int} (h : bTx c = true) : c < 128 := by
  unfold bTx bPr bBl at h
  simp only [Bool.or_eq_true, decide_eq_true_eq] at h
  omega
theorem bd_asc (r : Int) (t : ByteArray) (i : Nat) (hi : bTx (pk t i) = true) : ∀ j, i ≤ j → j < (bdF r t i).2 → pk t j < 128 := by
  intro j h1 h2
  by_cases e : j = i
  · subst e; exact tx_asc hi
  · unfold bdF at h2
    split at h2
    · split at h2
      · exact cd_asc (ru_all bCd bCd0 t i j h1 h2)
      · have h3 : j < i := h2
        omega
    · split at h2
      · split at h2
        · rename_i h
          have h3 : j < ru bLd bLd0 t (i + 1) + 1 := h2
          rcases Nat.lt_or_ge j (ru bLd bLd0 t (i + 1)) with h4 | h4
          · exact ld_asc (ru_all bLd bLd0 t (i + 1) j (by omega) h4)
          · have h5 : j = ru bLd bLd0 t (i + 1) := by omega
            rw [h5, h.2.2]
            decide
        · have h3 : j < i := h2
          omega
      · split at h2
        · exact ld_asc (ru_all bLd bLd0 t (i + 1) j (by omega) h2)
        · have h3 : j < i := h2
          omega
/-- Where a comment that begins with a bold word ends: what is wrong, where and the code; the end of its inner text; the index behind it. -/
def rmE (r : Int) (t x : ByteArray) (a : Int) (i : Nat) : Int × Int × Nat × Nat :=
  if i < t.size then
    (if bTx (pk t i) = true then
      (if (bdF r t i).1 = x ∧ jn r t i = false then (0, 0, i, (bdF r t i).2) else rmE r t x a (max (i + 1) (bdF r t i).2))
     else ((i : Int), 2, i, i))
  else (a, 16, i, i)
termination_by t.size - i
decreasing_by omega
theorem rm_out {r : Int} {t x : ByteArray} {a : Int} {i : Nat} (h : t.size ≤ i) : rmE r t x a i = (a, 16, i, i) := by rw [rmE, if_neg (by omega)]
theorem rm_bad {r : Int} {t x : ByteArray} {a : Int} {i : Nat} (h : i < t.size) (k : bTx (pk t i) = false) : rmE r t x a i = ((i : Int), 2, i, i) := by rw [rmE, if_pos h, if_neg (by rw [k]; decide)]
theorem rm_end {r : Int} {t x : ByteArray} {a : Int} {i : Nat} (h : i < t.size) (k : bTx (pk t i) = true) (m : (bdF r t i).1 = x) (n : jn r t i = false) : rmE r t x a i = (0, 0, i, (bdF r t i).2) := by rw [rmE, if_pos h, if_pos k, if_pos ⟨m, n⟩]
theorem rm_go {r : Int} {t x : ByteArray} {a : Int} {i : Nat} (h : i < t.size) (k : bTx (pk t i) = true) (m : ¬ ((bdF r t i).1 = x ∧ jn r t i = false)) : rmE r t x a i = rmE r t x a (max (i + 1) (bdF r t i).2) := by
  conv => lhs; rw [rmE, if_pos h, if_pos k, if_neg m]
/-- What a comment or a pragmat leaves. -/
def rmR (r : Int) (t x : ByteArray) (a : Int) (f : Nat) (b : Bool) (l : List Sy) : Rs :=
  if (rmE r t x a f).2.1 = 0 then ⟨if b = true then pgR r (t.extract f (rmE r t x a f).2.2.1) else r, ((rmE r t x a f).2.2.2 : Int), l, 0, 0⟩
  else ⟨r, a, l, (rmE r t x a f).1, (rmE r t x a f).2.1⟩
theorem ext_asc (t : ByteArray) (f i : Nat) (h : ∀ j, f ≤ j → j < i → pk t j < 128) (hi : i ≤ t.size) : ∀ c ∈ (t.extract f i).data.toList, c.toNat < 128 := by
  intro c hc
  obtain ⟨j, hj⟩ := List.getElem?_of_mem hc
  rw [Lib.extract_data, List.getElem?_take] at hj
  split at hj
  · rw [List.getElem?_drop] at hj
    have hlt : f + j < t.size := by omega
    have h1 := h (f + j) (by omega) (by omega)
    rw [pk_in hlt] at h1
    have h2 : t.data.toList[f + j]? = some t[f + j] := by rw [Array.getElem?_toList]; exact Array.getElem?_eq_getElem hlt
    rw [h2] at hj
    rw [← Option.some.inj hj]
    omega
  · cases hj
end Go.Proofs.YtbnldpcbdeeflaaGreatDoor
/- The scanner's walk over a comment or a pragmat. Condition: the scanner's block and its list lie in blocks of the call's own. -/
namespace Go.Proofs.YtbnldpcbdeeflaaGreatDoor
open Go.ChangeShapes Go.WideShapes Go.ChangeAt Go.RowKit

theorem Own.gb {w w' : World} {S g : Nat} {T : TypeId} {c : List Value} (h : Own w g T c) (k : Gb S w w') (hne : g ≠ S) : Own w' g T c := (k.block g h.lt (fun e => hne (Option.some.inj e))).trans h
set_option maxRecDepth 100000 in
set_option maxHeartbeats 8000000 in
theorem remark_any (B S a f : Nat) (t x : ByteArray) (b : Bool) (r : Int) (v : Value) (l : List Sy) (w : World) (hS : Sc w S t r (a : Int) v) (hL : Sl w B v l) (hB : B ≤ S) (hl : t.size ≤ 100000) (hf1 : 1 ≤ f) (hf2 : f ≤ t.size) :
    Calls Tryz.prog 91 #[.pointer (some ⟨S, 0, none⟩), .string x, .int .i64 (f : Int), .bool b] w (Stp B S t w (rmR r t x a f b l)) := by
  have hlt := hS.lt
  have hb0 := (Below.refl w.heap.size w).alloc (Nat.le_refl _) (.cells #[.int .i64 0, .int .i64 0] 26)
  have hR0 := Own.new w 26 [.int .i64 0, .int .i64 0]
  have HS := Lib.hid hS
  have HL := Lib.hid hL
  have HB0 := Lib.hid hb0
  have HR0 := Lib.hid hR0
  have HSZ := Lib.hid hl
  clear hS hL hb0 hR0
  go_enter Tryz.func91, Tryz.ntmps91
  go_wp2
  go_loopw [9] (fun v9 wr => ∃ i : Nat, f ≤ i ∧ i ≤ t.size ∧ rmE r t x a i = rmE r t x a f ∧ (∀ j, f ≤ j → j < i → pk t j < 128) ∧ v9 = .int .i64 i ∧ Below w.heap.size w wr ∧ Own wr w.heap.size 26 [.int .i64 0, .int .i64 0]) (fun v9 _ => t.size - (intOf v9).toNat)
  case atStart => exact ⟨f, Nat.le_refl _, hf2, rfl, fun j h1 h2 => by omega, rfl, HB0.out, HR0.out⟩
  case round =>
    obtain ⟨i, hfi, hi, he, has, rfl, hb, hR⟩ := hrel
    have HE := Lib.hid he
    have HAS := Lib.hid has
    have HBB := Lib.hid hb
    have HRR := Lib.hid hR
    have hzr := hb.size
    have hSr := Own.kept HS.out hb
    have c0 : wr.cell? ⟨S, 0, none⟩ = some (.string t) := Own.cell hSr 0
    have c1 : wr.cell? ⟨S, 1, none⟩ = some (.int .i64 r) := Own.cell hSr 1
    have c2 : wr.cell? ⟨S, 2, none⟩ = some (.int .i64 (a : Int)) := Own.cell hSr 2
    have e0 : wr.cell? ⟨w.heap.size, 0, none⟩ = some (.int .i64 0) := Own.cell hR 0
    have e1 : wr.cell? ⟨w.heap.size, 1, none⟩ = some (.int .i64 0) := Own.cell hR 1
    have ef := fun i => Own.frozen hR i
    have el := Own.lt hR
    have HSR := Lib.hid hSr
    have hi9 : (i : Int) < 100001 := by have := HSZ.out; omega
    clear he has hb hR hSr
    rcases Nat.lt_or_ge i t.size with hit | hit
    · have hp := pk_bd t i
      have hpi := (pk_in hit).symm
      have HIT := Lib.hid hit
      obtain ⟨p, hpe⟩ : ∃ p, pk t i = p := ⟨_, rfl⟩
      have HP := Lib.hid hpe
      rw [hpe] at hp hpi
      have HT := Lib.hid (fun w => by_tx p w hp.1 hp.2)
      clear hpe
      cases ht : bTx p
      · rw [ht] at HT
        have HRS : Hid (rmR r t x a f b l = ⟨r, a, l, i, 2⟩) := Lib.hid (by unfold rmR; rw [← HE.out, rm_bad HIT.out (by rw [HP.out]; exact ht)]; rfl)
        go_wp2_with ((go_at_call 77; (with_reducible refine (HT.out _).mono ?_); rintro e w' ⟨rfl, rfl⟩))
        have hF := ((HRR.out.put 0 (.int .i64 (i : Int))).put 1 (.int .i64 2))
        refine bodyPost_ret (ret_own rfl hF rfl Tryz.underlying26 rfl (by kernel_rfl)) rfl ?_
        rw [HRS.out]
        have hB2 := (HBB.out.setCell (p := ⟨w.heap.size, 0, none⟩) (Nat.le_refl _) (.int .i64 (i : Int))).setCell (p := ⟨w.heap.size, 1, none⟩) (Nat.le_refl _) (.int .i64 2)
        exact Stp.gb HS.out HL.out hB rfl (Own.kept HS.out hB2) (Gb.of hB2)
      · rw [ht] at HT
        have htx : bTx (pk t i) = true := by rw [HP.out]; exact ht
        have HTX := Lib.hid htx
        have hbe := bd_end r t i hit
        have hba := bd_asc r t i htx
        have hbo := bold_any t S i r wr c0 c1 HSZ.out hi
        obtain ⟨⟨y, e⟩, hy⟩ : ∃ q, bdF r t i = q := ⟨_, rfl⟩
        have HY := Lib.hid hy
        rw [hy] at hbe hba hbo
        simp only at hbe hba hbo
        obtain ⟨hie, het⟩ := hbe
        have HBA := Lib.hid hba
        have HBO := Lib.hid hbo
        have he9 : (e : Int) < 100001 := by have := HSZ.out; omega
        obtain ⟨jb, hjb⟩ : ∃ q, jn r t i = q := ⟨_, rfl⟩
        have HJB := Lib.hid hjb
        have HJ : Hid (∀ W, Below w.heap.size w W → Calls Tryz.prog 117 #[.pointer (some ⟨S, 0, none⟩), .int .i64 (i : Int)] W fun e w' => e = .returned (.bool jb) ∧ W = w') := Lib.hid (fun W hb => by have := joined_any t S i r W (Own.cell (Own.kept HS.out hb) 0) (Own.cell (Own.kept HS.out hb) 1) HSZ.out (by omega) hi; rwa [HJB.out] at this)
        have hne2 : S ≠ w.heap.size := by omega
        have HGO : Hid (¬ (y = x ∧ jb = false) → rmE r t x a (max (i + 1) e) = rmE r t x a f) := Lib.hid (fun h => by rw [← HE.out, rm_go HIT.out HTX.out (by rw [HY.out, HJB.out]; exact h), HY.out])
        have HAN : Hid (∀ j, f ≤ j → j < max (i + 1) e → pk t j < 128) := Lib.hid (fun j h1 h2 => by
          rcases Nat.lt_or_ge j i with h3 | h3
          · exact HAS.out j h1 h3
          · by_cases h4 : j = i
            · rw [h4]; exact tx_asc HTX.out
            · exact HBA.out j h3 (by omega))
        clear hba hbo hy hjb htx ht c0 c1 c2 e0 e1 ef el
        by_cases hxy : y = x
        · subst hxy
          cases hj : jb
          · rw [hj] at HJ
            have HEN : Hid (rmE r t y a f = (0, 0, i, e)) := Lib.hid (by rw [← HE.out, rm_end HIT.out HTX.out (by rw [HY.out]) (by rw [HJB.out]; exact hj), HY.out])
            clear hj
            have c0 : wr.cell? ⟨S, 0, none⟩ = some (.string t) := Own.cell HSR.out 0
            cases b
            · have HRS : Hid (rmR r t y a f false l = ⟨r, e, l, 0, 0⟩) := Lib.hid (by unfold rmR; rw [HEN.out]; rfl)
              go_wp2_with (first | (go_at_call 77; (with_reducible refine (HT.out _).mono ?_); rintro e w' ⟨rfl, rfl⟩) | (go_at_call 49; (with_reducible refine HBO.out.mono ?_); rintro e wb ⟨rfl, kb⟩; (have hbb := Below.call HBB.out HBB.out.size kb); (have hzb := hbb.size); (have HRB := Lib.hid (HRR.out.kept kb)); (have HSB := Lib.hid (Own.kept HS.out hbb)); (have b0 : wb.cell? ⟨S, 0, none⟩ = some (.string t) := Own.cell HSB.out 0); (have b2 : wb.cell? ⟨S, 2, none⟩ = some (.int .i64 (a : Int)) := Own.cell HSB.out 2); (have g0 : wb.cell? ⟨w.heap.size, 0, none⟩ = some (.int .i64 0) := Own.cell HRB.out 0); (have g1 : wb.cell? ⟨w.heap.size, 1, none⟩ = some (.int .i64 0) := Own.cell HRB.out 1); (have gf := fun i => Own.frozen HRB.out i); (have gs := fun i => Own.frozen HSB.out i); (have gl := Own.lt HRB.out); (have gsl := Own.lt HSB.out)) | (go_at_call 117; (with_reducible refine (HJ.out wb hbb).mono ?_); rintro e w' ⟨rfl, rfl⟩))
              have hF := ((HRB.out.far (p := ⟨S, 2, none⟩) (fun e => hne2 e.symm) (.int .i64 (e : Int))).put 0 (.int .i64 0)).put 1 (.int .i64 0)
              refine bodyPost_ret (ret_own rfl hF rfl Tryz.underlying26 rfl (by kernel_rfl)) rfl ?_
              rw [HRS.out]
              exact Stp.gb HS.out HL.out hB rfl (((Own.put HSB.out 2 (.int .i64 (e : Int))).far hne2 _).far hne2 _) ((((Gb.of hbb).set (Or.inl rfl) _).set (Or.inr (Nat.le_refl _)) _).set (Or.inr (Nat.le_refl _)) _)
            · have HRS : Hid (rmR r t y a f true l = ⟨pgR r (t.extract f i), e, l, 0, 0⟩) := Lib.hid (by unfold rmR; rw [HEN.out]; rfl)
              have hxs : (t.extract f i).size ≤ 100000 := by have := HSZ.out; rw [ByteArray.size_extract]; omega
              have HXA := Lib.hid (ext_asc t f i HAS.out hi)
              have HSE : Hid (∀ W, Below w.heap.size w W → Calls Tryz.prog 118 #[.pointer (some ⟨S, 0, none⟩), .string (t.extract f i)] W fun e w' => e = .returned (.tuple #[]) ∧ Sc w' S t (pgR r (t.extract f i)) a v ∧ Gb S W w') := Lib.hid (fun W hb => set_any S t _ r a v W (Own.kept HS.out hb) hxs HXA.out)
              clear hxs
              go_wp2_with (first | (go_at_call 77; (with_reducible refine (HT.out _).mono ?_); rintro e w' ⟨rfl, rfl⟩) | (go_at_call 49; (with_reducible refine HBO.out.mono ?_); rintro e wb ⟨rfl, kb⟩; (have hbb := Below.call HBB.out HBB.out.size kb); (have hzb := hbb.size); (have HRB := Lib.hid (HRR.out.kept kb)); (have HSB := Lib.hid (Own.kept HS.out hbb)); (have b0 : wb.cell? ⟨S, 0, none⟩ = some (.string t) := Own.cell HSB.out 0); (have b2 : wb.cell? ⟨S, 2, none⟩ = some (.int .i64 (a : Int)) := Own.cell HSB.out 2); (have g0 : wb.cell? ⟨w.heap.size, 0, none⟩ = some (.int .i64 0) := Own.cell HRB.out 0); (have g1 : wb.cell? ⟨w.heap.size, 1, none⟩ = some (.int .i64 0) := Own.cell HRB.out 1); (have gf := fun i => Own.frozen HRB.out i); (have gs := fun i => Own.frozen HSB.out i); (have gl := Own.lt HRB.out); (have gsl := Own.lt HSB.out)) | (go_at_call 117; (with_reducible refine (HJ.out wb hbb).mono ?_); rintro e w' ⟨rfl, rfl⟩) | (go_at_call 118; (with_reducible refine (HSE.out wb hbb).mono ?_); rintro e w2 ⟨rfl, hs2, hg2⟩; (have HS2 := Lib.hid hs2); (have HR2 := Lib.hid (HRB.out.gb hg2 (fun e => hne2 e.symm))); (have hz2 := hg2.size); (have d2 : w2.cell? ⟨S, 2, none⟩ = some (.int .i64 (a : Int)) := Own.cell HS2.out 2); (have d3 : w2.cell? ⟨w.heap.size, 0, none⟩ = some (.int .i64 0) := Own.cell HR2.out 0); (have d4 : w2.cell? ⟨w.heap.size, 1, none⟩ = some (.int .i64 0) := Own.cell HR2.out 1); (have df := fun i => Own.frozen HR2.out i); (have ds := fun i => Own.frozen HS2.out i); clear hs2))
              have hF := ((HR2.out.far (p := ⟨S, 2, none⟩) (fun e => hne2 e.symm) (.int .i64 (e : Int))).put 0 (.int .i64 0)).put 1 (.int .i64 0)
              refine bodyPost_ret (ret_own rfl hF rfl Tryz.underlying26 rfl (by kernel_rfl)) rfl ?_
              rw [HRS.out]
              exact Stp.gb HS.out HL.out hB rfl (((Own.put HS2.out 2 (.int .i64 (e : Int))).far hne2 _).far hne2 _) (((((Gb.of hbb).trans hg2).set (Or.inl rfl) _).set (Or.inr (Nat.le_refl _)) _).set (Or.inr (Nat.le_refl _)) _)
          · rw [hj] at HJ
            have HG := Lib.hid (HGO.out (fun h => by rw [hj] at h; cases h.2))
            clear hj
            have c0 : wr.cell? ⟨S, 0, none⟩ = some (.string t) := Own.cell HSR.out 0
            go_wp2_with (first | (go_at_call 77; (with_reducible refine (HT.out _).mono ?_); rintro e w' ⟨rfl, rfl⟩) | (go_at_call 49; (with_reducible refine HBO.out.mono ?_); rintro e wb ⟨rfl, kb⟩; (have hbb := Below.call HBB.out HBB.out.size kb); (have hzb := hbb.size); (have HRB := Lib.hid (HRR.out.kept kb)); (have HSB := Lib.hid (Own.kept HS.out hbb)); (have b0 : wb.cell? ⟨S, 0, none⟩ = some (.string t) := Own.cell HSB.out 0); (have b2 : wb.cell? ⟨S, 2, none⟩ = some (.int .i64 (a : Int)) := Own.cell HSB.out 2); (have g0 : wb.cell? ⟨w.heap.size, 0, none⟩ = some (.int .i64 0) := Own.cell HRB.out 0); (have g1 : wb.cell? ⟨w.heap.size, 1, none⟩ = some (.int .i64 0) := Own.cell HRB.out 1); (have gf := fun i => Own.frozen HRB.out i); (have gs := fun i => Own.frozen HSB.out i); (have gl := Own.lt HRB.out); (have gsl := Own.lt HSB.out)) | (go_at_call 117; (with_reducible refine (HJ.out wb hbb).mono ?_); rintro e w' ⟨rfl, rfl⟩))
            go_roundw
            case rel => exact ⟨max (i + 1) e, by omega, by omega, HG.out, HAN.out, by go_num, hbb, HRB.out⟩
            case measure => have := HIT.out; simp [intOf]; omega
        · have hyx : (y.toList == x.toList) = false := by
            rw [beq_eq_false_iff_ne, ByteArray.toList_eq, ByteArray.toList_eq]
            exact fun h => hxy (bytes_inj h)
          have HG := Lib.hid (HGO.out (fun h => hxy h.1))
          clear hxy
          have c0 : wr.cell? ⟨S, 0, none⟩ = some (.string t) := Own.cell HSR.out 0
          go_wp2_with (first | (go_at_call 77; (with_reducible refine (HT.out _).mono ?_); rintro e w' ⟨rfl, rfl⟩) | (go_at_call 49; (with_reducible refine HBO.out.mono ?_); rintro e wb ⟨rfl, kb⟩; (have hbb := Below.call HBB.out HBB.out.size kb); (have hzb := hbb.size); (have HRB := Lib.hid (HRR.out.kept kb)); (have HSB := Lib.hid (Own.kept HS.out hbb)); (have b0 : wb.cell? ⟨S, 0, none⟩ = some (.string t) := Own.cell HSB.out 0); (have b2 : wb.cell? ⟨S, 2, none⟩ = some (.int .i64 (a : Int)) := Own.cell HSB.out 2); (have g0 : wb.cell? ⟨w.heap.size, 0, none⟩ = some (.int .i64 0) := Own.cell HRB.out 0); (have g1 : wb.cell? ⟨w.heap.size, 1, none⟩ = some (.int .i64 0) := Own.cell HRB.out 1); (have gf := fun i => Own.frozen HRB.out i); (have gs := fun i => Own.frozen HSB.out i); (have gl := Own.lt HRB.out); (have gsl := Own.lt HSB.out)) | (go_at_call 117; (with_reducible refine (HJ.out wb hbb).mono ?_); rintro e w' ⟨rfl, rfl⟩))
          go_roundw
          case rel => exact ⟨max (i + 1) e, by omega, by omega, HG.out, HAN.out, by go_num, hbb, HRB.out⟩
          case measure => have := HIT.out; simp [intOf]; omega
    · have HRS : Hid (rmR r t x a f b l = ⟨r, a, l, a, 16⟩) := Lib.hid (by unfold rmR; rw [← HE.out, rm_out hit]; rfl)
      have HFA := Lib.hid (fun e W hb => fault_at c2 e W hb)
      clear c1 c2 e0 e1 ef el
      have hii : i = t.size := by omega
      subst hii
      clear hi hit
      go_wp2_with (first | (go_at_call 78; (with_reducible refine (HFA.out 16 _ (Below.refl _ _)).mono ?_); rintro e wf ⟨rfl, kf⟩; (have hbf := Below.call HBB.out HBB.out.size kf); (have hzf := hbf.size); (have hRf := HRR.out.kept kf); (have g0 : wf.cell? ⟨w.heap.size, 0, none⟩ = some (.int .i64 0) := Own.cell hRf 0); (have g1 : wf.cell? ⟨w.heap.size, 1, none⟩ = some (.int .i64 0) := Own.cell hRf 1); (have gf := fun i => Own.frozen hRf i); (have gl := Own.lt hRf); (have HRf := Lib.hid hRf); clear hRf))
      have hF := (HRf.out.put 0 (.int .i64 (a : Int))).put 1 (.int .i64 16)
      refine bodyPost_ret (ret_own rfl hF rfl Tryz.underlying26 rfl (by kernel_rfl)) rfl ?_
      rw [HRS.out]
      have hB2 := (hbf.setCell (p := ⟨w.heap.size, 0, none⟩) (Nat.le_refl _) (.int .i64 (a : Int))).setCell (p := ⟨w.heap.size, 1, none⟩) (Nat.le_refl _) (.int .i64 16)
      exact Stp.gb HS.out HL.out hB rfl (Own.kept HS.out hB2) (Gb.of hB2)
end Go.Proofs.YtbnldpcbdeeflaaGreatDoor
/- The scanner's step over a bold word. Condition: the scanner's block and its list lie in blocks of the call's own. -/
namespace Go.Proofs.YtbnldpcbdeeflaaGreatDoor
open Go.ChangeShapes Go.WideShapes Go.ChangeAt Go.RowKit

/-- What a bold word leaves. -/
def wdR (r : Int) (t x : ByteArray) (a : Int) (z : Nat) (l : List Sy) : Rs :=
  if x = ⟨#[67, 79]⟩ ∨ x = ⟨#[67, 79, 77, 77, 69, 78, 84]⟩ then rmR r t x a z false l
  else if x = ⟨#[80, 82]⟩ ∨ x = ⟨#[80, 82, 65, 71, 77, 65, 84]⟩ then rmR r t x a z true l
  else shR r a z 1 x l
/-- The step's own block of the result, after a call that leaves R. -/
theorem Stp.own {B S : Nat} {t : ByteArray} {r a : Int} {v : Value} {l : List Sy} {w w1 : World} {R : Rs} {x : Ending} (hS : Sc w S t r a v) (hL : Sl w B v l) (h : Stp B S t (w.alloc (.cells #[.int .i64 0, .int .i64 0] 26)) R x w1) : Own w1 w.heap.size 26 [.int .i64 0, .int .i64 0] ∧ w.heap.size < w1.heap.size := by
  have hlt := hS.lt
  have ho := h.2.2.2 v (Sc.c3 (Own.alloc hS _))
  have hR := (Own.new w 26 [.int .i64 0, .int .i64 0]).ot ho (by omega) (fun e => absurd (World.ownsRow.lt hL _ e).2 (Nat.lt_irrefl _))
  exact ⟨hR, hR.lt⟩
/-- The end of such a step. -/
theorem Stp.done {B S : Nat} {t : ByteArray} {r a : Int} {v : Value} {l : List Sy} {w w1 : World} {R : Rs} {x : Ending} (hS : Sc w S t r a v) (hL : Sl w B v l) (hB : B ≤ S) (h : Stp B S t (w.alloc (.cells #[.int .i64 0, .int .i64 0] 26)) R x w1) {y : Ending} (hy : y = .returned (.agg #[.int .i64 R.p, .int .i64 R.c])) : Stp B S t w R y ((w1.setCell ⟨w.heap.size, 0, none⟩ (.int .i64 R.p)).setCell ⟨w.heap.size, 1, none⟩ (.int .i64 R.c)) := by
  have hlt := hS.lt
  have hR := (Stp.own hS hL h).1
  obtain ⟨_, ⟨v1, hS1, hL1⟩, hb, hk⟩ := h
  have hne2 : S ≠ w.heap.size := by omega
  have n2 := Sl.ne hL1 hR (by decide)
  refine ⟨hy, ⟨v1, (Own.far hS1 hne2 _).far hne2 _, (hL1.far n2 _).far n2 _⟩, ((((Below.refl B w).alloc (by omega) _).trans hb).setCell (p := ⟨w.heap.size, 0, none⟩) (by show B ≤ w.heap.size; omega) _).setCell (p := ⟨w.heap.size, 1, none⟩) (by show B ≤ w.heap.size; omega) _, ?_⟩
  exact Kp.add hS ((Below.refl w.heap.size w).alloc (Nat.le_refl _) _) (hk v (Sc.c3 (Own.alloc hS _))) _ _
set_option maxHeartbeats 2000000 in
theorem word_0 (B S a z : Nat) (t : ByteArray) (r : Int) (v : Value) (l : List Sy) (w : World) (hS : Sc w S t r (a : Int) v) (hL : Sl w B v l) (hB : B ≤ S) (hl : t.size ≤ 100000) (hz1 : 1 ≤ z) (hz2 : z ≤ t.size) :
    Calls Tryz.prog 50 #[.pointer (some ⟨S, 0, none⟩), .string ⟨#[67, 79]⟩, .int .i64 (z : Int)] w (Stp B S t w (rmR r t ⟨#[67, 79]⟩ (a : Int) z false l)) := by
  have hlt := hS.lt
  have HA := Lib.hid (remark_any B S a z t ⟨#[67, 79]⟩ false r v l (w.alloc (.cells #[.int .i64 0, .int .i64 0] 26)) (Own.alloc hS _) (hL.alloc _) hB hl hz1 hz2)
  have HS := Lib.hid hS
  have HL := Lib.hid hL
  clear hS hL hl hz2
  go_enter Tryz.func50, Tryz.ntmps50
  go_wp2_with (go_at_call 91; (with_reducible refine HA.out.mono ?_))
  rintro e w1 h1
  have hx1 := h1.1
  have ho1 := Stp.own HS.out HL.out h1
  have g0 : w1.cell? ⟨w.heap.size, 0, none⟩ = some (.int .i64 0) := Own.cell ho1.1 0
  have g1 : w1.cell? ⟨w.heap.size, 1, none⟩ = some (.int .i64 0) := Own.cell ho1.1 1
  have gf := fun i => Own.frozen ho1.1 i
  have gl := ho1.2
  have H1 := Lib.hid h1
  have HO := Lib.hid ho1.1
  subst hx1
  clear h1 ho1
  obtain ⟨p, hp⟩ : ∃ p, (rmR r t ⟨#[67, 79]⟩ (a : Int) z false l).p = p := ⟨_, rfl⟩
  obtain ⟨c, hc⟩ : ∃ c, (rmR r t ⟨#[67, 79]⟩ (a : Int) z false l).c = c := ⟨_, rfl⟩
  rw [hp, hc]
  have HPP := Lib.hid hp
  have HCC := Lib.hid hc
  clear hp hc
  go_wp2_with fail
  have hF := (HO.out.put 0 (.int .i64 p)).put 1 (.int .i64 c)
  refine bodyPost_ret (ret_own rfl hF rfl Tryz.underlying26 rfl (by kernel_rfl)) rfl ?_
  have hd := Stp.done HS.out HL.out hB H1.out rfl
  rw [HPP.out, HCC.out] at hd
  exact hd
set_option maxHeartbeats 2000000 in
theorem word_1 (B S a z : Nat) (t : ByteArray) (r : Int) (v : Value) (l : List Sy) (w : World) (hS : Sc w S t r (a : Int) v) (hL : Sl w B v l) (hB : B ≤ S) (hl : t.size ≤ 100000) (hz1 : 1 ≤ z) (hz2 : z ≤ t.size) :
    Calls Tryz.prog 50 #[.pointer (some ⟨S, 0, none⟩), .string ⟨#[67, 79, 77, 77, 69, 78, 84]⟩, .int .i64 (z : Int)] w (Stp B S t w (rmR r t ⟨#[67, 79, 77, 77, 69, 78, 84]⟩ (a : Int) z false l)) := by
  have hlt := hS.lt
  have HA := Lib.hid (remark_any B S a z t ⟨#[67, 79, 77, 77, 69, 78, 84]⟩ false r v l (w.alloc (.cells #[.int .i64 0, .int .i64 0] 26)) (Own.alloc hS _) (hL.alloc _) hB hl hz1 hz2)
  have HS := Lib.hid hS
  have HL := Lib.hid hL
  clear hS hL hl hz2
  go_enter Tryz.func50, Tryz.ntmps50
  go_wp2_with (go_at_call 91; (with_reducible refine HA.out.mono ?_))
  rintro e w1 h1
  have hx1 := h1.1
  have ho1 := Stp.own HS.out HL.out h1
  have g0 : w1.cell? ⟨w.heap.size, 0, none⟩ = some (.int .i64 0) := Own.cell ho1.1 0
  have g1 : w1.cell? ⟨w.heap.size, 1, none⟩ = some (.int .i64 0) := Own.cell ho1.1 1
  have gf := fun i => Own.frozen ho1.1 i
  have gl := ho1.2
  have H1 := Lib.hid h1
  have HO := Lib.hid ho1.1
  subst hx1
  clear h1 ho1
  obtain ⟨p, hp⟩ : ∃ p, (rmR r t ⟨#[67, 79, 77, 77, 69, 78, 84]⟩ (a : Int) z false l).p = p := ⟨_, rfl⟩
  obtain ⟨c, hc⟩ : ∃ c, (rmR r t ⟨#[67, 79, 77, 77, 69, 78, 84]⟩ (a : Int) z false l).c = c := ⟨_, rfl⟩
  rw [hp, hc]
  have HPP := Lib.hid hp
  have HCC := Lib.hid hc
  clear hp hc
  go_wp2_with fail
  have hF := (HO.out.put 0 (.int .i64 p)).put 1 (.int .i64 c)
  refine bodyPost_ret (ret_own rfl hF rfl Tryz.underlying26 rfl (by kernel_rfl)) rfl ?_
  have hd := Stp.done HS.out HL.out hB H1.out rfl
  rw [HPP.out, HCC.out] at hd
  exact hd
set_option maxHeartbeats 2000000 in
theorem word_2 (B S a z : Nat) (t : ByteArray) (r : Int) (v : Value) (l : List Sy) (w : World) (hS : Sc w S t r (a : Int) v) (hL : Sl w B v l) (hB : B ≤ S) (hl : t.size ≤ 100000) (hz1 : 1 ≤ z) (hz2 : z ≤ t.size) :
    Calls Tryz.prog 50 #[.pointer (some ⟨S, 0, none⟩), .string ⟨#[80, 82]⟩, .int .i64 (z : Int)] w (Stp B S t w (rmR r t ⟨#[80, 82]⟩ (a : Int) z true l)) := by
  have hlt := hS.lt
  have HA := Lib.hid (remark_any B S a z t ⟨#[80, 82]⟩ true r v l (w.alloc (.cells #[.int .i64 0, .int .i64 0] 26)) (Own.alloc hS _) (hL.alloc _) hB hl hz1 hz2)
  have HS := Lib.hid hS
  have HL := Lib.hid hL
  clear hS hL hl hz2
  go_enter Tryz.func50, Tryz.ntmps50
  go_wp2_with (go_at_call 91; (with_reducible refine HA.out.mono ?_))
  rintro e w1 h1
  have hx1 := h1.1
  have ho1 := Stp.own HS.out HL.out h1
  have g0 : w1.cell? ⟨w.heap.size, 0, none⟩ = some (.int .i64 0) := Own.cell ho1.1 0
  have g1 : w1.cell? ⟨w.heap.size, 1, none⟩ = some (.int .i64 0) := Own.cell ho1.1 1
  have gf := fun i => Own.frozen ho1.1 i
  have gl := ho1.2
  have H1 := Lib.hid h1
  have HO := Lib.hid ho1.1
  subst hx1
  clear h1 ho1
  obtain ⟨p, hp⟩ : ∃ p, (rmR r t ⟨#[80, 82]⟩ (a : Int) z true l).p = p := ⟨_, rfl⟩
  obtain ⟨c, hc⟩ : ∃ c, (rmR r t ⟨#[80, 82]⟩ (a : Int) z true l).c = c := ⟨_, rfl⟩
  rw [hp, hc]
  have HPP := Lib.hid hp
  have HCC := Lib.hid hc
  clear hp hc
  go_wp2_with fail
  have hF := (HO.out.put 0 (.int .i64 p)).put 1 (.int .i64 c)
  refine bodyPost_ret (ret_own rfl hF rfl Tryz.underlying26 rfl (by kernel_rfl)) rfl ?_
  have hd := Stp.done HS.out HL.out hB H1.out rfl
  rw [HPP.out, HCC.out] at hd
  exact hd
set_option maxHeartbeats 2000000 in
theorem word_3 (B S a z : Nat) (t : ByteArray) (r : Int) (v : Value) (l : List Sy) (w : World) (hS : Sc w S t r (a : Int) v) (hL : Sl w B v l) (hB : B ≤ S) (hl : t.size ≤ 100000) (hz1 : 1 ≤ z) (hz2 : z ≤ t.size) :
    Calls Tryz.prog 50 #[.pointer (some ⟨S, 0, none⟩), .string ⟨#[80, 82, 65, 71, 77, 65, 84]⟩, .int .i64 (z : Int)] w (Stp B S t w (rmR r t ⟨#[80, 82, 65, 71, 77, 65, 84]⟩ (a : Int) z true l)) := by
  have hlt := hS.lt
  have HA := Lib.hid (remark_any B S a z t ⟨#[80, 82, 65, 71, 77, 65, 84]⟩ true r v l (w.alloc (.cells #[.int .i64 0, .int .i64 0] 26)) (Own.alloc hS _) (hL.alloc _) hB hl hz1 hz2)
  have HS := Lib.hid hS
  have HL := Lib.hid hL
  clear hS hL hl hz2
  go_enter Tryz.func50, Tryz.ntmps50
  go_wp2_with (go_at_call 91; (with_reducible refine HA.out.mono ?_))
  rintro e w1 h1
  have hx1 := h1.1
  have ho1 := Stp.own HS.out HL.out h1
  have g0 : w1.cell? ⟨w.heap.size, 0, none⟩ = some (.int .i64 0) := Own.cell ho1.1 0
  have g1 : w1.cell? ⟨w.heap.size, 1, none⟩ = some (.int .i64 0) := Own.cell ho1.1 1
  have gf := fun i => Own.frozen ho1.1 i
  have gl := ho1.2
  have H1 := Lib.hid h1
  have HO := Lib.hid ho1.1
  subst hx1
  clear h1 ho1
  obtain ⟨p, hp⟩ : ∃ p, (rmR r t ⟨#[80, 82, 65, 71, 77, 65, 84]⟩ (a : Int) z true l).p = p := ⟨_, rfl⟩
  obtain ⟨c, hc⟩ : ∃ c, (rmR r t ⟨#[80, 82, 65, 71, 77, 65, 84]⟩ (a : Int) z true l).c = c := ⟨_, rfl⟩
  rw [hp, hc]
  have HPP := Lib.hid hp
  have HCC := Lib.hid hc
  clear hp hc
  go_wp2_with fail
  have hF := (HO.out.put 0 (.int .i64 p)).put 1 (.int .i64 c)
  refine bodyPost_ret (ret_own rfl hF rfl Tryz.underlying26 rfl (by kernel_rfl)) rfl ?_
  have hd := Stp.done HS.out HL.out hB H1.out rfl
  rw [HPP.out, HCC.out] at hd
  exact hd
theorem toL_ne {x : ByteArray} {c : List UInt8} (h : x ≠ ⟨c.toArray⟩) : (x.toList == c) = false := by
  rw [beq_eq_false_iff_ne, ByteArray.toList_eq]
  exact fun e => h (bytes_inj (b := ⟨c.toArray⟩) e)
set_option maxHeartbeats 2000000 in
theorem word_n (B S a z : Nat) (t x : ByteArray) (r : Int) (v : Value) (l : List Sy) (w : World) (hS : Sc w S t r (a : Int) v) (hL : Sl w B v l) (hB : B ≤ S) (hll : l.length ≤ 1000000) (hx : x.size ≤ 200000) (x0 : x ≠ ⟨#[67, 79]⟩) (x1 : x ≠ ⟨#[67, 79, 77, 77, 69, 78, 84]⟩) (x2 : x ≠ ⟨#[80, 82]⟩) (x3 : x ≠ ⟨#[80, 82, 65, 71, 77, 65, 84]⟩) :
    Calls Tryz.prog 50 #[.pointer (some ⟨S, 0, none⟩), .string x, .int .i64 (z : Int)] w (Stp B S t w (shR r (a : Int) (z : Int) 1 x l)) := by
  have hlt := hS.lt
  have HA := Lib.hid (short_any B S t r a 1 z x v l (w.alloc (.cells #[.int .i64 0, .int .i64 0] 26)) (Own.alloc hS _) (hL.alloc _) hB hll hx)
  have HS := Lib.hid hS
  have HL := Lib.hid hL
  have y0 := toL_ne (c := [67, 79]) x0
  have y1 := toL_ne (c := [67, 79, 77, 77, 69, 78, 84]) x1
  have y2 := toL_ne (c := [80, 82]) x2
  have y3 := toL_ne (c := [80, 82, 65, 71, 77, 65, 84]) x3
  clear hS hL hll x0 x1 x2 x3
  go_enter Tryz.func50, Tryz.ntmps50
  go_wp2_with (go_at_call 48; (with_reducible refine HA.out.mono ?_))
  rintro e w1 h1
  have hx1 := h1.1
  have ho1 := Stp.own HS.out HL.out h1
  have g0 : w1.cell? ⟨w.heap.size, 0, none⟩ = some (.int .i64 0) := Own.cell ho1.1 0
  have g1 : w1.cell? ⟨w.heap.size, 1, none⟩ = some (.int .i64 0) := Own.cell ho1.1 1
  have gf := fun i => Own.frozen ho1.1 i
  have gl := ho1.2
  have H1 := Lib.hid h1
  have HO := Lib.hid ho1.1
  subst hx1
  clear h1 ho1
  obtain ⟨p, hp⟩ : ∃ p, (shR r (a : Int) (z : Int) 1 x l).p = p := ⟨_, rfl⟩
  obtain ⟨c, hc⟩ : ∃ c, (shR r (a : Int) (z : Int) 1 x l).c = c := ⟨_, rfl⟩
  rw [hp, hc]
  have HPP := Lib.hid hp
  have HCC := Lib.hid hc
  clear hp hc
  go_wp2_with fail
  have hF := (HO.out.put 0 (.int .i64 p)).put 1 (.int .i64 c)
  refine bodyPost_ret (ret_own rfl hF rfl Tryz.underlying26 rfl (by kernel_rfl)) rfl ?_
  have hd := Stp.done HS.out HL.out hB H1.out rfl
  rw [HPP.out, HCC.out] at hd
  exact hd
theorem word_any (B S a z : Nat) (t x : ByteArray) (r : Int) (v : Value) (l : List Sy) (w : World) (hS : Sc w S t r (a : Int) v) (hL : Sl w B v l) (hB : B ≤ S) (hl : t.size ≤ 100000) (hll : l.length ≤ 1000000) (hx : x.size ≤ 200000) (hz1 : 1 ≤ z) (hz2 : z ≤ t.size) :
    Calls Tryz.prog 50 #[.pointer (some ⟨S, 0, none⟩), .string x, .int .i64 (z : Int)] w (Stp B S t w (wdR r t x a z l)) := by
  unfold wdR
  by_cases h0 : x = ⟨#[67, 79]⟩
  · rw [if_pos (Or.inl h0)]; subst h0; exact word_0 B S a z t r v l w hS hL hB hl hz1 hz2
  · by_cases h1 : x = ⟨#[67, 79, 77, 77, 69, 78, 84]⟩
    · rw [if_pos (Or.inr h1)]; subst h1; exact word_1 B S a z t r v l w hS hL hB hl hz1 hz2
    · rw [if_neg (fun h => h.elim h0 h1)]
      by_cases h2 : x = ⟨#[80, 82]⟩
      · rw [if_pos (Or.inl h2)]; subst h2; exact word_2 B S a z t r v l w hS hL hB hl hz1 hz2
      · by_cases h3 : x = ⟨#[80, 82, 65, 71, 77, 65, 84]⟩
        · rw [if_pos (Or.inr h3)]; subst h3; exact word_3 B S a z t r v l w hS hL hB hl hz1 hz2
        · rw [if_neg (fun h => h.elim h2 h3)]
          exact word_n B S a z t x r v l w hS hL hB hll hx h0 h1 h2 h3
end Go.Proofs.YtbnldpcbdeeflaaGreatDoor
