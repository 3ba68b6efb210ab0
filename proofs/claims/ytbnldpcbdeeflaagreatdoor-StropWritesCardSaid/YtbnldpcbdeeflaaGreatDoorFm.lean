/- The scanner's formats. Condition: the scanner's block and its list lie in blocks of the call's own. -/
import Derived.Test.YtbnldpcbdeeflaaGreatDoorSt
import Derived.Deep.RegionWith
import Derived.IntWalk
namespace Go.Proofs.YtbnldpcbdeeflaaGreatDoor
open Go.ChangeShapes Go.WideShapes Go.ChangeAt Go.RowKit

theorem lit_lt {t : ByteArray} {i : Nat} {a : Int} (h : (litF t i a).2 = 0) : i < t.size := by
  unfold litF at h
  by_cases hi : i < t.size
  · exact hi
  · rw [if_neg hi] at h; cases h
/-- Where a format ends, or what is wrong: where, the code, the end. -/
def fmE (t : ByteArray) (a : Int) (i : Nat) (wi : Bool) : Int × Int × Nat :=
  if wi = false ∧ pk t i = 36 then (0, 0, i) else if h : (litF t i a).2 = 0 then fmE t a (i + 1) (if pk t i = 34 then !wi else wi) else ((litF t i a).1, (litF t i a).2, i)
termination_by t.size - i
decreasing_by have := lit_lt h; omega
theorem fm_end {t : ByteArray} {a : Int} {i : Nat} (h : pk t i = 36) : fmE t a i false = (0, 0, i) := by rw [fmE, if_pos ⟨rfl, h⟩]
theorem fm_bad {t : ByteArray} {a : Int} {i : Nat} {wi : Bool} (h : ¬ (wi = false ∧ pk t i = 36)) (k : (litF t i a).2 ≠ 0) : fmE t a i wi = ((litF t i a).1, (litF t i a).2, i) := by rw [fmE, if_neg h, dif_neg k]
theorem fm_go {t : ByteArray} {a : Int} {i : Nat} {wi : Bool} (h : ¬ (wi = false ∧ pk t i = 36)) (k : (litF t i a).2 = 0) : fmE t a i wi = fmE t a (i + 1) (if pk t i = 34 then !wi else wi) := by rw [fmE, if_neg h, dif_pos k]
/-- What a format leaves. -/
def fmR (r : Int) (t : ByteArray) (j : Nat) (l : List Sy) : Rs :=
  if (fmE t (j : Int) (j + 1) false).2.1 = 0 then ⟨r, ((fmE t (j : Int) (j + 1) false).2.2 : Int) + 1, l ++ [(7, t.extract (j + 1) (fmE t (j : Int) (j + 1) false).2.2, (j : Int))], 0, 0⟩
  else ⟨r, j, l, (fmE t (j : Int) (j + 1) false).1, (fmE t (j : Int) (j + 1) false).2.1⟩
theorem fmR_bad {r : Int} {t : ByteArray} {j : Nat} {l : List Sy} {p c : Int} {i : Nat} (h : fmE t (j : Int) (j + 1) false = (p, c, i)) (hc : c ≠ 0) : fmR r t j l = ⟨r, j, l, p, c⟩ := by unfold fmR; rw [h]; exact if_neg hc
theorem fmR_ok {r : Int} {t : ByteArray} {j : Nat} {l : List Sy} {p : Int} {i : Nat} (h : fmE t (j : Int) (j + 1) false = (p, 0, i)) : fmR r t j l = ⟨r, (i : Int) + 1, l ++ [(7, t.extract (j + 1) i, (j : Int))], 0, 0⟩ := by unfold fmR; rw [h]; exact if_pos rfl

set_option maxRecDepth 100000 in
set_option maxHeartbeats 8000000 in
theorem format_any (B S j : Nat) (t : ByteArray) (r : Int) (v : Value) (l : List Sy) (w : World) (hS : Sc w S t r (j : Int) v) (hL : Sl w B v l) (hB : B ≤ S) (hl : t.size ≤ 100000) (hll : l.length ≤ 1000000) (hj : j < t.size) :
    Calls Tryz.prog 41 #[.pointer (some ⟨S, 0, none⟩)] w (Stp B S t w (fmR r t j l)) := by
  have c0 := hS.c0
  have c2 := hS.c2
  have hSl := hS.lt
  have HS := Lib.hid hS
  have HL := Lib.hid hL
  have HSZ := Lib.hid hl
  have hj1 : (j : Int) < 100000 := by omega
  have HNV : Hid (∀ g, w.heap.size ≤ g → v.ownBlock ≠ some g) := Lib.hid (fun g hg e => by have := (World.ownsRow.lt hL _ e).2; omega)
  have HLIT : Hid (∀ (i : Nat) (W : World), i ≤ t.size → Below w.heap.size w W → Calls Tryz.prog 79 #[.pointer (some ⟨S, 0, none⟩), .int .i64 (i : Int)] W fun x w' => x = .returned (.agg #[.int .i64 (litF t i (j : Int)).1, .int .i64 (litF t i (j : Int)).2]) ∧ Below W.heap.size W w') := Lib.hid (fun i W hi hb => literal_any t S i (j : Int) W ((hb.cell (p := ⟨S, 0, none⟩) hSl).trans c0) ((hb.cell (p := ⟨S, 2, none⟩) hSl).trans c2) hl hi)
  have HPK : Hid (∀ (i : Nat) (W : World), i ≤ t.size → Below w.heap.size w W → Calls Tryz.prog 38 #[.pointer (some ⟨S, 0, none⟩), .int .i64 (i : Int)] W fun e w' => e = .returned (.int .u8 (pk t i)) ∧ W = w') := Lib.hid (fun i W hi hb => peek_any t S i W ((hb.cell (p := ⟨S, 0, none⟩) hSl).trans c0) hl (by omega))
  have HADD : Hid (∀ (W : World) (x : ByteArray) (z : Int), Below w.heap.size w W → Calls Tryz.prog 80 #[.pointer (some ⟨S, 0, none⟩), .int .i64 7, .string x, .int .i64 z] W fun e w' => e = .returned (.agg #[.int .i64 0, .int .i64 0]) ∧ (∃ v', Sc w' S t r z v' ∧ Sl w' B v' (l ++ [(7, x, (j : Int))])) ∧ Below B W w' ∧ Ot S v W w') := Lib.hid (fun W x z hb => add_any B S t r (j : Int) 7 z x v l W (Own.kept hS hb) (World.ownsRow.kept hL (Gb.of (S := S) hb) (Or.inr (Sl.ne hL hS (by decide)))) hB hll)
  clear hS hL hll hl
  go_enter Tryz.func41, Tryz.ntmps41
  go_wp2
  go_loopw [3, 4] (fun q3 q4 wr => ∃ (i : Nat) (wi : Bool), j + 1 ≤ i ∧ i ≤ t.size ∧ fmE t (j : Int) i wi = fmE t (j : Int) (j + 1) false ∧ q3 = .int .i64 i ∧ q4 = .bool wi ∧ Below w.heap.size w wr ∧ Own wr w.heap.size 26 [.int .i64 0, .int .i64 0]) (fun q3 _ _ => t.size - (intOf q3).toNat)
  case atStart => exact ⟨j + 1, false, Nat.le_refl _, hj, rfl, by go_num, rfl, (Below.refl _ _).alloc (Nat.le_refl _) _, Own.new w _ [_, _]⟩
  case round =>
    obtain ⟨i, wi, h1, h2, h3, rfl, rfl, h5, h6⟩ := hrel
    have H3 := Lib.hid h3
    have H5 := Lib.hid h5
    have H6 := Lib.hid h6
    have hw5 := h5.size
    have hw6 := Own.lt h6
    clear h3
    obtain ⟨p, hp⟩ : ∃ p, pk t i = p := ⟨_, rfl⟩
    have hpk := HPK.out i wr h2 h5
    have hpb := pk_bd t i
    rw [hp] at hpk hpb
    have HP := Lib.hid hp
    have HPE := Lib.hid hpk
    clear hp hpk
    by_cases he : wi = false ∧ p = 36
    · obtain ⟨rfl, rfl⟩ := he
      have HR : Hid (fmR r t j l = ⟨r, (i : Int) + 1, l ++ [(7, t.extract (j + 1) i, (j : Int))], 0, 0⟩) := Lib.hid (fmR_ok (H3.out.symm.trans (fm_end HP.out)))
      have d0 : wr.cell? ⟨S, 0, none⟩ = some (.string t) := (h5.cell (p := ⟨S, 0, none⟩) hSl).trans c0
      have d2 : wr.cell? ⟨S, 2, none⟩ = some (.int .i64 (j : Int)) := (h5.cell (p := ⟨S, 2, none⟩) hSl).trans c2
      have hS5 : S < wr.heap.size := by omega
      go_wp2_with (first | (go_at_call 38; (with_reducible refine (HPE.out).mono ?_); rintro e w' ⟨rfl, rfl⟩))
      have q1 : IntKind.i64.wrap ((j : Int) + 1) = (j : Int) + 1 := IntWalk.i64_in _ (by omega)
      have q2 : IntKind.i64.wrap ((i : Int) + 1) = (i : Int) + 1 := IntWalk.i64_in _ (by have := HSZ.out; omega)
      have q3 : (0 : Int) ≤ (j : Int) + 1 := by omega
      have q4 : ((j : Int) + 1).toNat = j + 1 := by omega
      have q5 : (j : Int) + 1 ≤ (i : Int) := by omega
      go_region_with (go_at_call 80; (with_reducible refine (HADD.out _ _ _ H5.out.drew).mono ?_); rintro e w2 ⟨rfl, ⟨v2, hS2, hL2⟩, hb2, ho2⟩; (have hR2 := (Own.drew H6.out).ot ho2 (by omega) (HNV.out _ (Nat.le_refl _))); (have e0 : w2.cell? ⟨w.heap.size, 0, none⟩ = some (.int .i64 0) := Own.cell hR2 0); (have e1 : w2.cell? ⟨w.heap.size, 1, none⟩ = some (.int .i64 0) := Own.cell hR2 1); (have f0 := fun i => Own.frozen hR2 i); have HR2 := Lib.hid hR2; have HS2 := Lib.hid hS2; have HL2 := Lib.hid hL2; clear hR2 hS2 hL2)
      all_goals
        go_wp2_with fail
        have hne2 : S ≠ w.heap.size := by omega
        have hF := (HR2.out.put 0 (.int .i64 0)).put 1 (.int .i64 0)
        refine bodyPost_ret (ret_own rfl hF rfl Tryz.underlying26 rfl (by kernel_rfl)) rfl ?_
        have n2 := Sl.ne HL2.out HR2.out (by decide)
        rw [HR.out]
        exact ⟨rfl, ⟨v2, (Own.far HS2.out hne2 _).far hne2 _, (HL2.out.far n2 _).far n2 _⟩, (((H5.out.mono (by omega)).drew.trans hb2).setCell (p := ⟨w.heap.size, 0, none⟩) (by show B ≤ w.heap.size; omega) _).setCell (p := ⟨w.heap.size, 1, none⟩) (by show B ≤ w.heap.size; omega) _, Kp.add HS.out H5.out.drew ho2 _ _⟩
    · cases hc : decide ((litF t i (j : Int)).2 = 0)
      · have hcc : (litF t i (j : Int)).2 ≠ 0 := of_decide_eq_false hc
        have hE : fmE t (j : Int) i wi = ((litF t i (j : Int)).1, (litF t i (j : Int)).2, i) := fm_bad (fun q => he ⟨q.1, by rw [← HP.out]; exact q.2⟩) hcc
        have hR := fmR_bad (r := r) (l := l) (H3.out.symm.trans hE) hcc
        have hli := HLIT.out i wr h2 h5
        obtain ⟨pp, hpp⟩ : ∃ z, (litF t i (j : Int)).1 = z := ⟨_, rfl⟩
        obtain ⟨cc, hccc⟩ : ∃ z, (litF t i (j : Int)).2 = z := ⟨_, rfl⟩
        rw [hpp, hccc] at hli hR
        rw [hccc] at hcc
        have hcb : (cc != 0) = true := by rw [bne_iff_ne]; exact hcc
        have HR := Lib.hid hR
        have HLI := Lib.hid hli
        clear hpp hccc hE hR hli hc hcc
        cases wi
        all_goals
          first
            | have hne : (p != 36) = true := by rw [bne_iff_ne]; exact fun q => he ⟨rfl, q⟩
            | skip
          clear he
          go_wp2_with (first | (go_at_call 38; (with_reducible refine (HPE.out).mono ?_); rintro e w' ⟨rfl, rfl⟩) | (go_at_call 79; (with_reducible refine HLI.out.mono ?_); rintro e w1 ⟨rfl, hb1⟩; (have hR1 := H6.out.kept hb1); (have g0 : w1.cell? ⟨w.heap.size, 0, none⟩ = some (.int .i64 0) := Own.cell hR1 0); (have g1 : w1.cell? ⟨w.heap.size, 1, none⟩ = some (.int .i64 0) := Own.cell hR1 1); (have gf := fun i => Own.frozen hR1 i); (have gl := Own.lt hR1); (have g2 : w1.cell? ⟨S, 0, none⟩ = some (.string t) := (((Below.call H5.out hw5 hb1).cell (p := ⟨S, 0, none⟩) hSl).trans c0)); (have gs : S < w1.heap.size := by omega); clear hR1))
          have hF := (((H6.out.kept hb1).put 0 (.int .i64 pp)).put 1 (.int .i64 cc)).alloc (.cells #[.int .i64 pp, .int .i64 cc] 26)
          refine bodyPost_ret (ret_own rfl hF rfl Tryz.underlying26 rfl (by kernel_rfl)) rfl ?_
          rw [HR.out]
          have hB2 := (((Below.call h5 hw5 hb1).setCell (p := ⟨w.heap.size, 0, none⟩) (Nat.le_refl _) (.int .i64 pp)).setCell (p := ⟨w.heap.size, 1, none⟩) (Nat.le_refl _) (.int .i64 cc)).alloc (by simp [World.setCell]; omega) (.cells #[.int .i64 pp, .int .i64 cc] 26)
          exact Stp.gb HS.out HL.out hB rfl (Own.kept HS.out hB2) (Gb.of hB2)
      · have hcc : (litF t i (j : Int)).2 = 0 := of_decide_eq_true hc
        have hlt := lit_lt hcc
        have hE : fmE t (j : Int) i wi = fmE t (j : Int) (i + 1) (if pk t i = 34 then !wi else wi) := fm_go (fun q => he ⟨q.1, by rw [← HP.out]; exact q.2⟩) hcc
        rw [HP.out] at hE
        have HE := Lib.hid (hE.symm.trans H3.out)
        have hli := HLIT.out i wr h2 h5
        obtain ⟨pp, hpp⟩ : ∃ z, (litF t i (j : Int)).1 = z := ⟨_, rfl⟩
        rw [hpp, hcc] at hli
        have HLI := Lib.hid hli
        have hpi := (pk_in hlt).symm
        rw [HP.out] at hpi
        have d0 : wr.cell? ⟨S, 0, none⟩ = some (.string t) := (h5.cell (p := ⟨S, 0, none⟩) hSl).trans c0
        have hS5 : S < wr.heap.size := by omega
        have hi9 : (i : Int) < 100000 := by have := HSZ.out; omega
        have HT := Lib.hid hlt
        clear hpp hE hli hc hcc
        by_cases h34 : p = 34
        · subst h34
          cases wi
          all_goals
            clear he
            go_wp2_with (first | (go_at_call 38; (with_reducible refine (HPE.out).mono ?_); rintro e w' ⟨rfl, rfl⟩) | (go_at_call 79; (with_reducible refine HLI.out.mono ?_); rintro e w1 ⟨rfl, hb1⟩; (have hR1 := H6.out.kept hb1); (have g0 : w1.cell? ⟨w.heap.size, 0, none⟩ = some (.int .i64 0) := Own.cell hR1 0); (have g1 : w1.cell? ⟨w.heap.size, 1, none⟩ = some (.int .i64 0) := Own.cell hR1 1); (have gf := fun i => Own.frozen hR1 i); (have gl := Own.lt hR1); (have g2 : w1.cell? ⟨S, 0, none⟩ = some (.string t) := (((Below.call H5.out hw5 hb1).cell (p := ⟨S, 0, none⟩) hSl).trans c0)); (have gs : S < w1.heap.size := by omega); clear hR1))
            go_roundw
            case rel => exact ⟨i + 1, _, by omega, HT.out, HE.out, by go_num, rfl, (Below.call h5 hw5 hb1).alloc (by omega) _, Own.alloc (H6.out.kept hb1) _⟩
            case measure => have := HT.out; simp [intOf]; omega
        · have h34b : (p == 34) = false := by rw [beq_eq_false_iff_ne]; exact h34
          have H34 := Lib.hid h34
          clear h34
          cases wi
          all_goals
            first
              | have hne : (p != 36) = true := by rw [bne_iff_ne]; exact fun q => he ⟨rfl, q⟩
              | skip
            clear he
            go_wp2_with (first | (go_at_call 38; (with_reducible refine (HPE.out).mono ?_); rintro e w' ⟨rfl, rfl⟩) | (go_at_call 79; (with_reducible refine HLI.out.mono ?_); rintro e w1 ⟨rfl, hb1⟩; (have hR1 := H6.out.kept hb1); (have g0 : w1.cell? ⟨w.heap.size, 0, none⟩ = some (.int .i64 0) := Own.cell hR1 0); (have g1 : w1.cell? ⟨w.heap.size, 1, none⟩ = some (.int .i64 0) := Own.cell hR1 1); (have gf := fun i => Own.frozen hR1 i); (have gl := Own.lt hR1); (have g2 : w1.cell? ⟨S, 0, none⟩ = some (.string t) := (((Below.call H5.out hw5 hb1).cell (p := ⟨S, 0, none⟩) hSl).trans c0)); (have gs : S < w1.heap.size := by omega); clear hR1))
            go_roundw
            case rel => exact ⟨i + 1, _, by omega, HT.out, (by have := HE.out; rw [if_neg H34.out] at this; exact this), by go_num, rfl, (Below.call h5 hw5 hb1).alloc (by omega) _, Own.alloc (H6.out.kept hb1) _⟩
            case measure => have := HT.out; simp [intOf]; omega
end Go.Proofs.YtbnldpcbdeeflaaGreatDoor
