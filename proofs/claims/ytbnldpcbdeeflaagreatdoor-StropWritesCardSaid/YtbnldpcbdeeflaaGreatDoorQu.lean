/- The scanner's strings. Conditions: the scanner's block and its list lie in blocks of the call's own; the library's MaxLen holds a number. -/
import Derived.Test.YtbnldpcbdeeflaaGreatDoorFm
import Derived.Test.YtbnldpcbdeeflaaGreatDoorBu
import Derived.Lib.SplitLaws
namespace Go.Proofs.YtbnldpcbdeeflaaGreatDoor
open Go.ChangeShapes Go.WideShapes Go.ChangeAt Go.RowKit

theorem lt_of_pk {t : ByteArray} {i : Nat} {c : Int} (h : pk t i = c) (hc : c ≠ 0) : i < t.size := by
  rcases Nat.lt_or_ge i t.size with h1 | h1
  · exact h1
  · rw [pk_out h1] at h; exact absurd h.symm hc
/-- The library's variable holds a number. -/
def Mx (w : World) : Prop := ∃ m : Int, w.cell? ⟨1, 0, none⟩ = some (.int .i64 m)
theorem Mx.lt {w : World} (h : Mx w) : 1 < w.heap.size := by obtain ⟨m, h⟩ := h; exact cell_lt h
theorem Mx.below {B : Nat} {w w' : World} (h : Mx w) (hb : Below B w w') (hB : 1 < B) : Mx w' := by obtain ⟨m, h⟩ := h; exact ⟨m, (hb.cell (p := ⟨_, 0, none⟩) hB).trans h⟩
theorem Mx.call {w w' : World} (h : Mx w) (hb : Below w.heap.size w w') : Mx w' := h.below hb h.lt
/-- A string's characters: two quotes stand for one. -/
def quT (t : ByteArray) (a b : Nat) : ByteArray := ⟨(Lib.replaceAll (List.take (b - a) (List.drop a t.data.toList)) [34, 34] [34]).toArray⟩
/-- Where a string ends, or what is wrong: where, the code, the end. -/
def quE (t : ByteArray) (a : Int) (i : Nat) : Int × Int × Nat :=
  if h : (litF t i a).2 = 0 then (if pk t i = 34 then (if pk t (i + 1) = 34 then quE t a (i + 1 + 1) else (0, 0, i)) else quE t a (i + 1)) else ((litF t i a).1, (litF t i a).2, i)
termination_by t.size - i
decreasing_by
  all_goals
    have := lit_lt h
    omega
theorem qu_bad {t : ByteArray} {a : Int} {i : Nat} (k : (litF t i a).2 ≠ 0) : quE t a i = ((litF t i a).1, (litF t i a).2, i) := by rw [quE, dif_neg k]
theorem qu_end {t : ByteArray} {a : Int} {i : Nat} (k : (litF t i a).2 = 0) (h : pk t i = 34) (n : pk t (i + 1) ≠ 34) : quE t a i = (0, 0, i) := by rw [quE, dif_pos k, if_pos h, if_neg n]
theorem qu_two {t : ByteArray} {a : Int} {i : Nat} (k : (litF t i a).2 = 0) (h : pk t i = 34) (n : pk t (i + 1) = 34) : quE t a i = quE t a (i + 1 + 1) := by rw [quE, dif_pos k, if_pos h, if_pos n]
theorem qu_one {t : ByteArray} {a : Int} {i : Nat} (k : (litF t i a).2 = 0) (h : pk t i ≠ 34) : quE t a i = quE t a (i + 1) := by rw [quE, dif_pos k, if_neg h]
/-- What a string leaves. -/
def quR (r : Int) (t : ByteArray) (j : Nat) (l : List Sy) : Rs :=
  if (quE t (j : Int) (j + 1)).2.1 = 0 then ⟨r, ((quE t (j : Int) (j + 1)).2.2 : Int) + 1, l ++ [(6, quT t (j + 1) (quE t (j : Int) (j + 1)).2.2, (j : Int))], 0, 0⟩
  else ⟨r, j, l, (quE t (j : Int) (j + 1)).1, (quE t (j : Int) (j + 1)).2.1⟩
theorem quR_bad {r : Int} {t : ByteArray} {j : Nat} {l : List Sy} {p c : Int} {i : Nat} (h : quE t (j : Int) (j + 1) = (p, c, i)) (hc : c ≠ 0) : quR r t j l = ⟨r, j, l, p, c⟩ := by unfold quR; rw [h]; exact if_neg hc
theorem quR_ok {r : Int} {t : ByteArray} {j : Nat} {l : List Sy} {p : Int} {i : Nat} (h : quE t (j : Int) (j + 1) = (p, 0, i)) : quR r t j l = ⟨r, (i : Int) + 1, l ++ [(6, quT t (j + 1) i, (j : Int))], 0, 0⟩ := by unfold quR; rw [h]; exact if_pos rfl

set_option maxRecDepth 100000 in
set_option maxHeartbeats 8000000 in
theorem quotation_any (B S j : Nat) (t : ByteArray) (r : Int) (v : Value) (l : List Sy) (w : World) (hS : Sc w S t r (j : Int) v) (hL : Sl w B v l) (hB : B ≤ S) (hl : t.size ≤ 100000) (hll : l.length ≤ 1000000) (hj : j < t.size) (hM : Mx w) :
    Calls Tryz.prog 40 #[.pointer (some ⟨S, 0, none⟩)] w (Stp B S t w (quR r t j l)) := by
  have c0 := hS.c0
  have c2 := hS.c2
  have hSl := hS.lt
  have HS := Lib.hid hS
  have HL := Lib.hid hL
  have HSZ := Lib.hid hl
  have hj1 : (j : Int) < 100000 := by omega
  have HNV : Hid (∀ g, w.heap.size ≤ g → v.ownBlock ≠ some g) := Lib.hid (fun g hg e => by have := (World.ownsRow.lt hL _ e).2; omega)
  have HLIT : Hid (∀ (i : Nat) (W : World), i ≤ t.size → Below w.heap.size w W → Calls Tryz.prog 79 #[.pointer (some ⟨S, 0, none⟩), .int .i64 (i : Int)] W fun x w' => x = .returned (.agg #[.int .i64 (litF t i (j : Int)).1, .int .i64 (litF t i (j : Int)).2]) ∧ Below W.heap.size W w') := Lib.hid (fun i W hi hb => literal_any t S i (j : Int) W ((hb.cell (p := ⟨S, 0, none⟩) hSl).trans c0) ((hb.cell (p := ⟨S, 2, none⟩) hSl).trans c2) hl hi)
  have HPK : Hid (∀ (i : Nat) (W : World), i ≤ 100001 → Below w.heap.size w W → Calls Tryz.prog 38 #[.pointer (some ⟨S, 0, none⟩), .int .i64 (i : Int)] W fun e w' => e = .returned (.int .u8 (pk t i)) ∧ W = w') := Lib.hid (fun i W hi hb => peek_any t S i W ((hb.cell (p := ⟨S, 0, none⟩) hSl).trans c0) hl (by omega))
  have HADD : Hid (∀ (W : World) (x : ByteArray) (z : Int), Below w.heap.size w W → Calls Tryz.prog 80 #[.pointer (some ⟨S, 0, none⟩), .int .i64 6, .string x, .int .i64 z] W fun e w' => e = .returned (.agg #[.int .i64 0, .int .i64 0]) ∧ (∃ v', Sc w' S t r z v' ∧ Sl w' B v' (l ++ [(6, x, (j : Int))])) ∧ Below B W w' ∧ Ot S v W w') := Lib.hid (fun W x z hb => add_any B S t r (j : Int) 6 z x v l W (Own.kept hS hb) (World.ownsRow.kept hL (Gb.of (S := S) hb) (Or.inr (Sl.ne hL hS (by decide)))) hB hll)
  have HRA : Hid (∀ (W : World) (i : Nat), i ≤ t.size → Below w.heap.size w W → Calls Tryz.prog 68 #[.string (t.extract (j + 1) i), .string ⟨#[34, 34]⟩, .string ⟨#[34]⟩] W fun e w' => e = .returned (.string (quT t (j + 1) i)) ∧ Below W.heap.size W w') := Lib.hid (fun W i hi hb => by
    obtain ⟨m, hm⟩ := hM.call hb
    have h1 : (t.extract (j + 1) i).size ≤ 100000 := by rw [ByteArray.size_extract]; omega
    have := Tryz.strings_ReplaceAll (t.extract (j + 1) i) ⟨#[34, 34]⟩ ⟨#[34]⟩ m W (by omega) hm (by decide) (by have h3 := Lib.countB_le ⟨#[34, 34]⟩ (by decide) _ (t.extract (j + 1) i) (Nat.le_refl _); have h2 : (ByteArray.mk #[34]).size = 1 := rfl; rw [h2]; omega)
    rw [Lib.extract_data] at this
    exact this)
  clear hS hL hll hl hM
  go_enter Tryz.func40, Tryz.ntmps40
  go_wp2
  go_loopw [3] (fun q3 wr => ∃ i : Nat, j + 1 ≤ i ∧ i ≤ t.size ∧ quE t (j : Int) i = quE t (j : Int) (j + 1) ∧ q3 = .int .i64 i ∧ Below w.heap.size w wr ∧ Own wr w.heap.size 26 [.int .i64 0, .int .i64 0]) (fun q3 _ => t.size - (intOf q3).toNat)
  case atStart => exact ⟨j + 1, Nat.le_refl _, hj, rfl, by go_num, (Below.refl _ _).alloc (Nat.le_refl _) _, Own.new w _ [_, _]⟩
  case round =>
    obtain ⟨i, h1, h2, h3, rfl, h5, h6⟩ := hrel
    have H3 := Lib.hid h3
    have H5 := Lib.hid h5
    have H6 := Lib.hid h6
    have hw5 := h5.size
    have hw6 := Own.lt h6
    have hi1 : i + 1 ≤ 100001 := by have := HSZ.out; omega
    clear h3
    have hli := HLIT.out i wr h2 h5
    cases hc : decide ((litF t i (j : Int)).2 = 0)
    · have hcc : (litF t i (j : Int)).2 ≠ 0 := of_decide_eq_false hc
      have hR := quR_bad (r := r) (l := l) (H3.out.symm.trans (qu_bad hcc)) hcc
      obtain ⟨pp, hpp⟩ : ∃ z, (litF t i (j : Int)).1 = z := ⟨_, rfl⟩
      obtain ⟨cc, hccc⟩ : ∃ z, (litF t i (j : Int)).2 = z := ⟨_, rfl⟩
      rw [hpp, hccc] at hli hR
      rw [hccc] at hcc
      have hcb : (cc != 0) = true := by rw [bne_iff_ne]; exact hcc
      have HR := Lib.hid hR
      have HLI := Lib.hid hli
      clear hpp hccc hR hli hc hcc
      go_wp2_with (first | (go_at_call 79; (with_reducible refine HLI.out.mono ?_); rintro e w1 ⟨rfl, hb1⟩; (have hR1 := H6.out.kept hb1); (have g0 : w1.cell? ⟨w.heap.size, 0, none⟩ = some (.int .i64 0) := Own.cell hR1 0); (have g1 : w1.cell? ⟨w.heap.size, 1, none⟩ = some (.int .i64 0) := Own.cell hR1 1); (have gf := fun i => Own.frozen hR1 i); (have gl := Own.lt hR1); (have g2 : w1.cell? ⟨S, 0, none⟩ = some (.string t) := ((Below.call H5.out hw5 hb1).cell (p := ⟨S, 0, none⟩) hSl).trans c0); (have gs : S < w1.heap.size := by omega); (have HP1 := Lib.hid (HPK.out (i + 1) (w1.alloc (.cells #[.int .i64 pp, .int .i64 cc] 26)) hi1 ((Below.call H5.out hw5 hb1).alloc (by omega) _))); clear hR1))
      have hF := (((H6.out.kept hb1).put 0 (.int .i64 pp)).put 1 (.int .i64 cc)).alloc (.cells #[.int .i64 pp, .int .i64 cc] 26)
      refine bodyPost_ret (ret_own rfl hF rfl Tryz.underlying26 rfl (by kernel_rfl)) rfl ?_
      rw [HR.out]
      have hB2 := (((Below.call h5 hw5 hb1).setCell (p := ⟨w.heap.size, 0, none⟩) (Nat.le_refl _) (.int .i64 pp)).setCell (p := ⟨w.heap.size, 1, none⟩) (Nat.le_refl _) (.int .i64 cc)).alloc (by simp [World.setCell]; omega) (.cells #[.int .i64 pp, .int .i64 cc] 26)
      exact Stp.gb HS.out HL.out hB rfl (Own.kept HS.out hB2) (Gb.of hB2)
    · have hcc : (litF t i (j : Int)).2 = 0 := of_decide_eq_true hc
      have hlt := lit_lt hcc
      have HCC := Lib.hid hcc
      obtain ⟨pp, hpp⟩ : ∃ z, (litF t i (j : Int)).1 = z := ⟨_, rfl⟩
      obtain ⟨cc, hccc⟩ : ∃ z : Int, 0 = z := ⟨_, rfl⟩
      rw [hpp, hcc, hccc] at hli
      have HLI := Lib.hid hli
      have hpi := (pk_in hlt).symm
      obtain ⟨p, hp⟩ : ∃ p, pk t i = p := ⟨_, rfl⟩
      rw [hp] at hpi
      have HP := Lib.hid hp
      have hi9 : (i : Int) < 100000 := by have := HSZ.out; omega
      have HT := Lib.hid hlt
      have hq := pk_bd t (i + 1)
      obtain ⟨q, hqe⟩ : ∃ q, pk t (i + 1) = q := ⟨_, rfl⟩
      rw [hqe] at hq
      have HQ := Lib.hid hqe
      subst hccc
      clear hpp hli hc hcc hp hqe
      by_cases h34 : p = 34
      · subst h34
        by_cases q34 : q = 34
        · subst q34
          have HN := Lib.hid ((qu_two HCC.out HP.out HQ.out).symm.trans H3.out)
          have HT2 : Hid (i + 1 < t.size) := Lib.hid (lt_of_pk HQ.out (by decide))
          go_wp2_with (first | (go_at_call 79; (with_reducible refine HLI.out.mono ?_); rintro e w1 ⟨rfl, hb1⟩; (have hR1 := H6.out.kept hb1); (have g0 : w1.cell? ⟨w.heap.size, 0, none⟩ = some (.int .i64 0) := Own.cell hR1 0); (have g1 : w1.cell? ⟨w.heap.size, 1, none⟩ = some (.int .i64 0) := Own.cell hR1 1); (have gf := fun i => Own.frozen hR1 i); (have gl := Own.lt hR1); (have g2 : w1.cell? ⟨S, 0, none⟩ = some (.string t) := ((Below.call H5.out hw5 hb1).cell (p := ⟨S, 0, none⟩) hSl).trans c0); (have gs : S < w1.heap.size := by omega); (have hp1 := (HPK.out (i + 1) (w1.alloc (.cells #[.int .i64 pp, .int .i64 0] 26)) hi1 ((Below.call H5.out hw5 hb1).alloc (by omega) _))); (rw [show ((i + 1 : Nat) : Int) = (i : Int) + 1 by omega, HQ.out] at hp1); have HP1 := Lib.hid hp1; clear hR1 hp1) | (go_at_call 38; (with_reducible refine HP1.out.mono ?_); rintro e w' ⟨rfl, rfl⟩))
          go_roundw
          case rel => exact ⟨i + 1 + 1, by omega, HT2.out, HN.out, by go_num, (Below.call h5 hw5 hb1).alloc (by omega) _, Own.alloc (H6.out.kept hb1) _⟩
          case measure => have := HT.out; simp [intOf]; omega
        · have q34b : (q != 34) = true := by rw [bne_iff_ne]; exact q34
          have HR : Hid (quR r t j l = ⟨r, (i : Int) + 1, l ++ [(6, quT t (j + 1) i, (j : Int))], 0, 0⟩) := Lib.hid (quR_ok (H3.out.symm.trans (qu_end HCC.out HP.out (by rw [HQ.out]; exact q34))))
          clear q34
          go_wp2_with (first | (go_at_call 79; (with_reducible refine HLI.out.mono ?_); rintro e w1 ⟨rfl, hb1⟩; (have hR1 := H6.out.kept hb1); (have g0 : w1.cell? ⟨w.heap.size, 0, none⟩ = some (.int .i64 0) := Own.cell hR1 0); (have g1 : w1.cell? ⟨w.heap.size, 1, none⟩ = some (.int .i64 0) := Own.cell hR1 1); (have gf := fun i => Own.frozen hR1 i); (have gl := Own.lt hR1); (have g2 : w1.cell? ⟨S, 0, none⟩ = some (.string t) := ((Below.call H5.out hw5 hb1).cell (p := ⟨S, 0, none⟩) hSl).trans c0); (have gs : S < w1.heap.size := by omega); (have hp1 := (HPK.out (i + 1) (w1.alloc (.cells #[.int .i64 pp, .int .i64 0] 26)) hi1 ((Below.call H5.out hw5 hb1).alloc (by omega) _))); (rw [show ((i + 1 : Nat) : Int) = (i : Int) + 1 by omega, HQ.out] at hp1); have HP1 := Lib.hid hp1; clear hR1 hp1) | (go_at_call 38; (with_reducible refine HP1.out.mono ?_); rintro e w' ⟨rfl, rfl⟩))
          have z1 := hb1.size
          have hBB := (Below.call h5 hw5 hb1).alloc (by omega) (.cells #[.int .i64 pp, .int .i64 0] 26)
          have hOO := Own.alloc (H6.out.kept hb1) (.cells #[.int .i64 pp, .int .i64 0] 26)
          have HBB := Lib.hid hBB
          have HOO := Lib.hid hOO
          have d0 := (hBB.cell (p := ⟨S, 0, none⟩) hSl).trans c0
          have d2 := (hBB.cell (p := ⟨S, 2, none⟩) hSl).trans c2
          have ds : S < (w1.alloc (.cells #[.int .i64 pp, .int .i64 0] 26)).heap.size := by simp; omega
          generalize (w1.alloc (.cells #[.int .i64 pp, .int .i64 0] 26)) = W at *
          have q1 : IntKind.i64.wrap ((j : Int) + 1) = (j : Int) + 1 := IntWalk.i64_in _ (by omega)
          have q2 : IntKind.i64.wrap ((i : Int) + 1) = (i : Int) + 1 := IntWalk.i64_in _ (by omega)
          have q3 : (0 : Int) ≤ (j : Int) + 1 := by omega
          have q4 : ((j : Int) + 1).toNat = j + 1 := by omega
          have q5 : (j : Int) + 1 ≤ (i : Int) := by omega
          have HRI := Lib.hid (HRA.out W.drew i h2 HBB.out.drew)
          clear hBB hOO hb1 z1 g0 g1 g2 gf gl gs
          go_region_with (first | (go_at_call 68; (with_reducible refine HRI.out.mono ?_); rintro e w5 ⟨rfl, hb5⟩; (have HB5 : Hid (Below w.heap.size w w5) := Lib.hid (HBB.out.drew.trans (hb5.mono (by have := HBB.out.size; simp [sz_drew]; omega)))); (have HO5 : Hid (Own w5 w.heap.size 26 [.int .i64 0, .int .i64 0]) := Lib.hid ((Own.drew HOO.out).kept hb5)); clear hb5) | (go_at_call 80; (with_reducible refine (HADD.out _ _ _ HB5.out).mono ?_); rintro e w2 ⟨rfl, ⟨v2, hS2, hL2⟩, hb2, ho2⟩; (have hR2 := HO5.out.ot ho2 (by omega) (HNV.out _ (Nat.le_refl _))); (have e0 : w2.cell? ⟨w.heap.size, 0, none⟩ = some (.int .i64 0) := Own.cell hR2 0); (have e1 : w2.cell? ⟨w.heap.size, 1, none⟩ = some (.int .i64 0) := Own.cell hR2 1); (have f0 := fun i => Own.frozen hR2 i); have HR2 := Lib.hid hR2; have HS2 := Lib.hid hS2; have HL2 := Lib.hid hL2; clear hR2 hS2 hL2))
          all_goals
            go_wp2_with fail
            have hne2 : S ≠ w.heap.size := by omega
            have hF := (HR2.out.put 0 (.int .i64 0)).put 1 (.int .i64 0)
            refine bodyPost_ret (ret_own rfl hF rfl Tryz.underlying26 rfl (by kernel_rfl)) rfl ?_
            have n2 := Sl.ne HL2.out HR2.out (by decide)
            rw [HR.out]
            exact ⟨rfl, ⟨v2, (Own.far HS2.out hne2 _).far hne2 _, (HL2.out.far n2 _).far n2 _⟩, (((HB5.out.mono (by omega)).trans hb2).setCell (p := ⟨w.heap.size, 0, none⟩) (by show B ≤ w.heap.size; omega) _).setCell (p := ⟨w.heap.size, 1, none⟩) (by show B ≤ w.heap.size; omega) _, Kp.add HS.out HB5.out ho2 _ _⟩
      · have h34b : (p == 34) = false := by rw [beq_eq_false_iff_ne]; exact h34
        have HN := Lib.hid ((qu_one HCC.out (by rw [HP.out]; exact h34)).symm.trans H3.out)
        clear h34
        go_wp2_with (first | (go_at_call 79; (with_reducible refine HLI.out.mono ?_); rintro e w1 ⟨rfl, hb1⟩; (have hR1 := H6.out.kept hb1); (have g0 : w1.cell? ⟨w.heap.size, 0, none⟩ = some (.int .i64 0) := Own.cell hR1 0); (have g1 : w1.cell? ⟨w.heap.size, 1, none⟩ = some (.int .i64 0) := Own.cell hR1 1); (have gf := fun i => Own.frozen hR1 i); (have gl := Own.lt hR1); (have g2 : w1.cell? ⟨S, 0, none⟩ = some (.string t) := ((Below.call H5.out hw5 hb1).cell (p := ⟨S, 0, none⟩) hSl).trans c0); (have gs : S < w1.heap.size := by omega); (have hp1 := (HPK.out (i + 1) (w1.alloc (.cells #[.int .i64 pp, .int .i64 0] 26)) hi1 ((Below.call H5.out hw5 hb1).alloc (by omega) _))); (rw [show ((i + 1 : Nat) : Int) = (i : Int) + 1 by omega, HQ.out] at hp1); have HP1 := Lib.hid hp1; clear hR1 hp1))
        go_roundw
        case rel => exact ⟨i + 1, by omega, HT.out, HN.out, by go_num, (Below.call h5 hw5 hb1).alloc (by omega) _, Own.alloc (H6.out.kept hb1) _⟩
        case measure => have := HT.out; simp [intOf]; omega
end Go.Proofs.YtbnldpcbdeeflaaGreatDoor
