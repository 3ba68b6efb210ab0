/- The scanner's step over a sign. Condition: the listed signs lie in their table. -/
import Derived.Test.YtbnldpcbdeeflaaGreatDoorGAr
import Derived.Deep.MidRow
namespace Go.Proofs.YtbnldpcbdeeflaaGreatDoor
open Go.ChangeShapes Go.WideShapes Go.ChangeAt Go.RowKit

def sgs : List (List UInt8) := [[58, 47, 61, 58], [37, 42, 58, 61], [58, 61, 58], [43, 58, 61], [45, 58, 61], [42, 58, 61], [47, 58, 61], [37, 58, 61], [43, 61, 58], [124, 58], [58, 61], [47, 61], [60, 61], [62, 61], [42, 42], [47, 47], [37, 42], [43, 42], [40], [41], [91], [93], [44], [59], [58], [64], [124], [61], [60], [62], [43], [45], [42], [47], [37], [94], [38], [126]]
/-- The table holds the signs. -/
def Sg (w : World) : Prop := ∀ i : Nat, i < 38 → w.cell? ⟨0, i, none⟩ = some (.string ⟨(sgs.getD i []).toArray⟩)
/-- The first sign from the ith on that a text begins with. -/
def fdS (d : List UInt8) (i : Nat) : Option (List UInt8) := (sgs.drop i).find? (fun s => Lib.hasPrefix d s)
theorem fd_in {i : Nat} (h : i < 38) : sgs.drop i = sgs.getD i [] :: sgs.drop (i + 1) := by
  have hl : i < sgs.length := h
  rw [List.drop_eq_getElem_cons hl, List.getD_eq_getElem?_getD, List.getElem?_eq_getElem hl]
  rfl
theorem fd_yes {d : List UInt8} {i : Nat} (h : i < 38) (k : Lib.hasPrefix d (sgs.getD i []) = true) : fdS d i = some (sgs.getD i []) := by unfold fdS; rw [fd_in h, List.find?_cons_of_pos k]
theorem fd_no {d : List UInt8} {i : Nat} (h : i < 38) (k : Lib.hasPrefix d (sgs.getD i []) = false) : fdS d i = fdS d (i + 1) := by unfold fdS; rw [fd_in h, List.find?_cons_of_neg (by rw [k]; decide)]
theorem fd_out (d : List UInt8) : fdS d 38 = none := rfl
theorem sg_len : ∀ i : Nat, i < 38 → (sgs.getD i []).length ≤ 4 := by decide
theorem ext_drop (t : ByteArray) (a : Nat) : (t.extract a t.size).data.toList = t.data.toList.drop a := by
  have hl : t.data.toList.length = t.size := rfl
  rw [ByteArray.data_extract, Array.toList_extract, List.extract_eq_take_drop]
  exact List.take_of_length_le (by rw [List.length_drop, hl]; exact Nat.le_refl _)
def sgV : List Value := sgs.map (fun l => .string ⟨l.toArray⟩)
theorem sgV_get {i : Nat} (h : i < 38) : sgV[i]? = some (.string ⟨(sgs.getD i []).toArray⟩) := by
  have hl : i < sgs.length := h
  unfold sgV
  rw [List.getElem?_map, List.getElem?_eq_getElem hl, List.getD_eq_getElem?_getD, List.getElem?_eq_getElem hl]
  rfl
theorem Sg.range {w : World} (h : Sg w) : w.rangeAt 0 0 sgV := by
  intro j v hv
  have hj : j < 38 := by
    rcases Nat.lt_or_ge j 38 with h1 | h1
    · exact h1
    · rw [List.getElem?_eq_none (show sgV.length ≤ j from h1)] at hv; cases hv
  rw [sgV_get hj] at hv
  rw [Nat.zero_add, h j hj]
  exact hv
theorem Sg.below {B : Nat} {w w' : World} (h : Sg w) (hb : Below B w w') (hB : 0 < B) : Sg w' := fun i hi => (hb.cell (p := ⟨_, i, none⟩) hB).trans (h i hi)
theorem Sg.lt {w : World} (h : Sg w) : 0 < w.heap.size := cell_lt (h 0 (by decide))
theorem ix_any (L : List Value) (i : Nat) (h : i < 38) (x : Value) (hx : L[i]? = some x) (w : World) : (Instr.index 96 (.agg L.toArray) (.int .i64 (i : Int))).run Tryz.prog w = .ok x w := by
  have hi : 0 ≤ (i : Int) ∧ (i : Int) < ((38 : Nat) : Int) := by omega
  simp only [Instr.index, asIntOf, Sem.run_bind, Sem.run_pure, Result.andThen_ok, run_underlying Tryz.underlying96, if_pos hi]
  simp [Tryz.sizeOf9, part, Sem.run_bind, Tryz.isAgg9, hx]
/-- What a sign leaves. -/
def snR (r : Int) (t : ByteArray) (a : Nat) (l : List Sy) : Rs :=
  match fdS (t.data.toList.drop a) 0 with
  | some s => ⟨r, (a : Int) + (s.length : Int), l ++ [(8, ⟨s.toArray⟩, (a : Int))], 0, 0⟩
  | none => ⟨r, a, l, a, if bTx (pk t a) = true then 9 else 2⟩
set_option maxHeartbeats 4000000 in
theorem sign_any (B S a : Nat) (t : ByteArray) (r : Int) (v : Value) (l : List Sy) (w : World) (hS : Sc w S t r (a : Int) v) (hL : Sl w B v l) (hB : B ≤ S) (hl : t.size ≤ 100000) (hll : l.length ≤ 1000000) (ha : a < t.size) (hG : Sg w) :
    Calls Tryz.prog 51 #[.pointer (some ⟨S, 0, none⟩)] w (Stp B S t w (snR r t a l)) := by
  have hlt := hS.lt
  have hb0 := (Below.refl w.heap.size w).alloc (Nat.le_refl _) (.cells #[.int .i64 0, .int .i64 0] 26)
  have hG1 := (hG.below hb0 hG.lt).range
  have hR0 := Own.new w 26 [.int .i64 0, .int .i64 0]
  have HS := Lib.hid hS
  have HL := Lib.hid hL
  have HB0 := Lib.hid hb0
  have HR0 := Lib.hid hR0
  obtain ⟨L, hLe⟩ : ∃ L, sgV = L := ⟨_, rfl⟩
  have hLi : (Tryz.prog.info? 96).map (·.size) = some L.length := by rw [← hLe]; kernel_rfl
  rw [hLe] at hG1
  have HLE := Lib.hid hLe
  have HG := Lib.hid hG
  clear hS hL hb0 hR0 hLe hG
  go_enter Tryz.func51, Tryz.ntmps51
  go_wp2_with (refine wpList_load_mid rfl 96 _ rfl 0 0 rfl L _ hG1 Tryz.underlying96 rfl hLi ?_)
  clear hG1 hLi
  go_loopw [6] (fun v6 wr => ∃ i : Nat, i ≤ 38 ∧ fdS (t.data.toList.drop a) i = fdS (t.data.toList.drop a) 0 ∧ v6 = .int .i64 i ∧ Below w.heap.size w wr ∧ Own wr w.heap.size 26 [.int .i64 0, .int .i64 0]) (fun v6 _ => 38 - (intOf v6).toNat)
  case atStart => exact ⟨0, Nat.zero_le _, rfl, rfl, HB0.out, HR0.out⟩
  case round =>
    obtain ⟨i, hi, hf, rfl, hb, hR⟩ := hrel
    have HF := Lib.hid hf
    have HBB := Lib.hid hb
    have HRR := Lib.hid hR
    have hzr := hb.size
    have hSr := Own.kept HS.out hb
    have c0 : wr.cell? ⟨S, 0, none⟩ = some (.string t) := Own.cell hSr 0
    have c2 : wr.cell? ⟨S, 2, none⟩ = some (.int .i64 (a : Int)) := Own.cell hSr 2
    have HSR := Lib.hid hSr
    clear hf hb hR hSr
    rcases Nat.lt_or_ge i 38 with h38 | h38
    · obtain ⟨s, hs⟩ : ∃ s, sgs.getD i [] = s := ⟨_, rfl⟩
      have hLg : L[i]? = some (.string ⟨s.toArray⟩) := by rw [← HLE.out, ← hs]; exact sgV_get h38
      have hsl : s.length ≤ 4 := by rw [← hs]; exact sg_len i h38
      have ix := ix_any L i h38 _ hLg
      clear hLg
      have HH := Lib.hid h38
      have HPX := Lib.hid (fun W => Tryz.strings_HasPrefix (t.extract a t.size) ⟨s.toArray⟩ W)
      rw [ext_drop] at HPX
      have HSG := Lib.hid hs
      clear hs
      cases hp : Lib.hasPrefix (t.data.toList.drop a) s
      · rw [hp] at HPX
        have HN := Lib.hid (show fdS (t.data.toList.drop a) (i + 1) = fdS (t.data.toList.drop a) 0 by rw [← HF.out, fd_no HH.out (by rw [HSG.out]; exact hp)])
        clear hp
        go_upto_region 4 with fail
        clear ix
        go_region_with (go_at_call 92; (with_reducible refine (HPX.out _).mono ?_); rintro e w' ⟨rfl, rfl⟩)
        go_wp2_with fail
        all_goals
          go_roundw
          case rel => exact ⟨i + 1, by omega, HN.out, by go_num, HBB.out.drew, Own.drew HRR.out⟩
          case measure => have := HH.out; simp [intOf]; omega
      · rw [hp] at HPX
        have hR : snR r t a l = ⟨r, (a : Int) + (s.length : Int), l ++ [(8, ⟨s.toArray⟩, (a : Int))], 0, 0⟩ := by
          unfold snR
          rw [← HF.out, fd_yes HH.out (by rw [HSG.out]; exact hp), HSG.out]
        have HRS := Lib.hid hR
        have HA : Hid (∀ W, Below w.heap.size w W → Calls Tryz.prog 80 #[.pointer (some ⟨S, 0, none⟩), .int .i64 8, .string ⟨s.toArray⟩, .int .i64 ((a : Int) + (s.length : Int))] W fun e w' => e = .returned (.agg #[.int .i64 0, .int .i64 0]) ∧ (∃ v', Sc w' S t r ((a : Int) + (s.length : Int)) v' ∧ Sl w' B v' (l ++ [(8, ⟨s.toArray⟩, (a : Int))])) ∧ Below B W w' ∧ Ot S v W w') := Lib.hid (fun W hb => add_any B S t r a 8 _ _ v l W (Own.kept HS.out hb) (HL.out.gb (Sl.ne HL.out HS.out (by decide)) (Gb.of hb)) hB hll)
        have HNV : Hid (v.ownBlock ≠ some w.heap.size) := Lib.hid (fun e => absurd (World.ownsRow.lt HL.out _ e).2 (Nat.lt_irrefl _))
        have HDB := Lib.hid HBB.out.drew
        have HDR := Lib.hid (Own.drew HRR.out)
        clear hp hR
        go_upto_region 4 with fail
        clear ix
        go_region_with (go_at_call 92; (with_reducible refine (HPX.out _).mono ?_); rintro e w' ⟨rfl, rfl⟩)
        go_wp2_with (go_at_call 80; (with_reducible refine (HA.out _ HDB.out).mono ?_))
        all_goals
          rintro e w3 ⟨rfl, ⟨v3, hS3, hL3⟩, hb3, ho3⟩
          have hz3 := hb3.size
          simp only [sz_drew] at hz3
          have hR3 := HDR.out.ot ho3 (by omega) HNV.out
          have g0 : w3.cell? ⟨w.heap.size, 0, none⟩ = some (.int .i64 0) := Own.cell hR3 0
          have g1 : w3.cell? ⟨w.heap.size, 1, none⟩ = some (.int .i64 0) := Own.cell hR3 1
          have gf := fun i => Own.frozen hR3 i
          have gl := Own.lt hR3
          have HR3 := Lib.hid hR3
          have HS3 := Lib.hid hS3
          have HL3 := Lib.hid hL3
          have hne2 : S ≠ w.heap.size := by omega
          clear hR3 hS3 hL3
          go_wp2_with fail
          have hF := (HR3.out.put 0 (.int .i64 0)).put 1 (.int .i64 0)
          refine bodyPost_ret (ret_own rfl hF rfl Tryz.underlying26 rfl (by kernel_rfl)) rfl ?_
          rw [HRS.out]
          have n2 := Sl.ne HL3.out HR3.out (by decide)
          exact ⟨rfl, ⟨v3, (Own.far HS3.out hne2 _).far hne2 _, (HL3.out.far n2 _).far n2 _⟩, (((HDB.out.mono (by omega)).trans hb3).setCell (p := ⟨w.heap.size, 0, none⟩) (by show B ≤ w.heap.size; omega) _).setCell (p := ⟨w.heap.size, 1, none⟩) (by show B ≤ w.heap.size; omega) _, Kp.add HS.out HDB.out ho3 _ _⟩
    · have hi38 : i = 38 := by omega
      subst hi38
      rw [fd_out] at HF
      have hp := pk_bd t a
      have hpi := (pk_in ha).symm
      obtain ⟨p, hpe⟩ : ∃ p, pk t a = p := ⟨_, rfl⟩
      have HE := Lib.hid hpe
      rw [hpe] at hp hpi
      have HT := Lib.hid (fun w => by_tx p w hp.1 hp.2)
      have HFA := Lib.hid (fun e W hb => fault_at c2 e W hb)
      clear hpe
      have HDB := Lib.hid HBB.out.drew
      have HDR := Lib.hid (Own.drew HRR.out)
      cases hb : bTx p
      · rw [hb] at HT
        have HRS : Hid (snR r t a l = ⟨r, a, l, a, 2⟩) := Lib.hid (by unfold snR; rw [← HF.out, HE.out, hb]; rfl)
        go_upto_region 7 with fail
        go_region_with (go_at_call 77; (with_reducible refine (HT.out _).mono ?_); rintro e w' ⟨rfl, rfl⟩)
        go_wp2_with (go_at_call 78; (with_reducible refine (HFA.out 2 _ ((Below.refl _ _).drew)).mono ?_); rintro e wf ⟨rfl, kf⟩; (have hbf := Below.call HDB.out HDB.out.size kf); (have hzf := hbf.size); (have hRf := HDR.out.kept kf); (have g0 : wf.cell? ⟨w.heap.size, 0, none⟩ = some (.int .i64 0) := Own.cell hRf 0); (have g1 : wf.cell? ⟨w.heap.size, 1, none⟩ = some (.int .i64 0) := Own.cell hRf 1); (have gf := fun i => Own.frozen hRf i); (have gl := Own.lt hRf); (have HRf := Lib.hid hRf); clear hRf)
        all_goals
          have hF := (HRf.out.put 0 (.int .i64 (a : Int))).put 1 (.int .i64 2)
          refine bodyPost_ret (ret_own rfl hF rfl Tryz.underlying26 rfl (by kernel_rfl)) rfl ?_
          rw [HRS.out]
          have hB2 := (hbf.setCell (p := ⟨w.heap.size, 0, none⟩) (Nat.le_refl _) (.int .i64 (a : Int))).setCell (p := ⟨w.heap.size, 1, none⟩) (Nat.le_refl _) (.int .i64 2)
          exact Stp.gb HS.out HL.out hB rfl (Own.kept HS.out hB2) (Gb.of hB2)
      · rw [hb] at HT
        have HRS : Hid (snR r t a l = ⟨r, a, l, a, 9⟩) := Lib.hid (by unfold snR; rw [← HF.out, HE.out, hb]; rfl)
        go_upto_region 7 with fail
        go_region_with (go_at_call 77; (with_reducible refine (HT.out _).mono ?_); rintro e w' ⟨rfl, rfl⟩)
        go_wp2_with (go_at_call 78; (with_reducible refine (HFA.out 9 _ ((Below.refl _ _).drew)).mono ?_); rintro e wf ⟨rfl, kf⟩; (have hbf := Below.call HDB.out HDB.out.size kf); (have hzf := hbf.size); (have hRf := HDR.out.kept kf); (have g0 : wf.cell? ⟨w.heap.size, 0, none⟩ = some (.int .i64 0) := Own.cell hRf 0); (have g1 : wf.cell? ⟨w.heap.size, 1, none⟩ = some (.int .i64 0) := Own.cell hRf 1); (have gf := fun i => Own.frozen hRf i); (have gl := Own.lt hRf); (have HRf := Lib.hid hRf); clear hRf)
        all_goals
          have hF := (HRf.out.put 0 (.int .i64 (a : Int))).put 1 (.int .i64 9)
          refine bodyPost_ret (ret_own rfl hF rfl Tryz.underlying26 rfl (by kernel_rfl)) rfl ?_
          rw [HRS.out]
          have hB2 := (hbf.setCell (p := ⟨w.heap.size, 0, none⟩) (Nat.le_refl _) (.int .i64 (a : Int))).setCell (p := ⟨w.heap.size, 1, none⟩) (Nat.le_refl _) (.int .i64 9)
          exact Stp.gb HS.out HL.out hB rfl (Own.kept HS.out hB2) (Gb.of hB2)
end Go.Proofs.YtbnldpcbdeeflaaGreatDoor
