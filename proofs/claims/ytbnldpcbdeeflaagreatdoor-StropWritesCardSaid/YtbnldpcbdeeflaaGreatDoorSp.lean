/- The scanner's step. Condition: the scanner's block and its list lie in blocks of the call's own; the tables hold what they are laid with. -/
import Derived.Test.YtbnldpcbdeeflaaGreatDoorGo
import Derived.BigRegion
namespace Go.Proofs.YtbnldpcbdeeflaaGreatDoor
open Go.ChangeShapes Go.WideShapes Go.ChangeAt Go.RowKit

/-- The step's own block of the result, after a call that leaves R. -/
theorem Stp.own2 {B S : Nat} {t : ByteArray} {r a : Int} {v : Value} {l : List Sy} {w W w1 : World} {R : Rs} {x : Ending} (hS : Sc w S t r a v) (hL : Sl w B v l) (hb : Below w.heap.size w W) (ho : Own W w.heap.size 26 [.int .i64 0, .int .i64 0]) (h : Stp B S t W R x w1) : Own w1 w.heap.size 26 [.int .i64 0, .int .i64 0] ∧ w.heap.size < w1.heap.size := by
  have hlt := hS.lt
  have hR := ho.ot (h.2.2.2 v (Sc.c3 (Own.kept hS hb))) (by omega) (fun e => absurd (World.ownsRow.lt hL _ e).2 (Nat.lt_irrefl _))
  exact ⟨hR, hR.lt⟩
/-- The end of such a step. -/
theorem Stp.done2 {B S : Nat} {t : ByteArray} {r a : Int} {v : Value} {l : List Sy} {w W w1 : World} {R : Rs} {x : Ending} (hS : Sc w S t r a v) (hL : Sl w B v l) (hB : B ≤ S) (hb0 : Below w.heap.size w W) (ho : Own W w.heap.size 26 [.int .i64 0, .int .i64 0]) (h : Stp B S t W R x w1) {y : Ending} (hy : y = .returned (.agg #[.int .i64 R.p, .int .i64 R.c])) : Stp B S t w R y ((w1.setCell ⟨w.heap.size, 0, none⟩ (.int .i64 R.p)).setCell ⟨w.heap.size, 1, none⟩ (.int .i64 R.c)) := by
  have hlt := hS.lt
  have hR := (Stp.own2 hS hL hb0 ho h).1
  obtain ⟨_, ⟨v1, hS1, hL1⟩, hb, hk⟩ := h
  have hne2 : S ≠ w.heap.size := by omega
  have n2 := Sl.ne hL1 hR (by decide)
  refine ⟨hy, ⟨v1, (Own.far hS1 hne2 _).far hne2 _, (hL1.far n2 _).far n2 _⟩, (((hb0.mono (by omega)).trans hb).setCell (p := ⟨w.heap.size, 0, none⟩) (by show B ≤ w.heap.size; omega) _).setCell (p := ⟨w.heap.size, 1, none⟩) (by show B ≤ w.heap.size; omega) _, ?_⟩
  exact Kp.add hS hb0 (hk v (Sc.c3 (Own.kept hS hb0))) _ _
theorem Sl.kept {w w' : World} {B S : Nat} {t : ByteArray} {r a : Int} {v : Value} {l : List Sy} (hL : Sl w B v l) (hS : Sc w S t r a v) (k : Below w.heap.size w w') : Sl w' B v l := hL.gb (Sl.ne hL hS (by decide)) (Gb.of k)
theorem bd_size (r : Int) (t : ByteArray) (i : Nat) : (bdF r t i).1.size ≤ t.size := by
  have hx : ∀ a b, (upW t a b).size ≤ t.size := by
    intro a b
    unfold upW
    show (Lib.toUpperA _).toArray.size ≤ _
    rw [List.size_toArray]
    unfold Lib.toUpperA
    rw [List.length_map, List.length_take, List.length_drop, Array.length_toList]
    have : t.data.size = t.size := rfl
    omega
  have hy : ∀ a b, (t.extract a b).size ≤ t.size := by
    intro a b
    rw [ByteArray.size_extract]
    omega
  have hz : (⟨#[]⟩ : ByteArray).size ≤ t.size := Nat.zero_le _
  unfold bdF
  repeat' split
  all_goals first | exact hx _ _ | exact hy _ _ | exact hz
set_option maxHeartbeats 4000000 in
theorem sp_com (B S a : Nat) (t : ByteArray) (r : Int) (v : Value) (l : List Sy) (w : World) (hS : Sc w S t r (a : Int) v) (hL : Sl w B v l) (hB : B ≤ S) (hl : t.size ≤ 100000) (hll : l.length ≤ 1000000) (ha : a < t.size) (hM : Mx w) (hG : Sg w) (hgb : 0 < w.heap.size) (hp : pk t a = 35) :
    Calls Tryz.prog 22 #[.pointer (some ⟨S, 0, none⟩)] w (Stp B S t w ((⟨r, (cmE t (a : Int) (a + 1)).1, l, (cmE t (a : Int) (a + 1)).2.1, (cmE t (a : Int) (a + 1)).2.2⟩ : Rs))) := by
  have hlt := hS.lt
  have c0 := hS.c0
  have c1 := hS.c1
  have c2 := hS.c2
  have fS := fun i => Own.frozen hS i
  have HS := Lib.hid hS
  have HL := Lib.hid hL
  have hS0 : Sc ((w.alloc (.cells #[.int .i64 0, .int .i64 0] 26)).drew) S t r (a : Int) v := Own.drew (Own.alloc hS _)
  have HBW : Hid (Below w.heap.size w ((w.alloc (.cells #[.int .i64 0, .int .i64 0] 26)).drew)) := Lib.hid ((Below.refl _ w).alloc (Nat.le_refl _) _).drew
  have HOW : Hid (Own ((w.alloc (.cells #[.int .i64 0, .int .i64 0] 26)).drew) w.heap.size 26 [.int .i64 0, .int .i64 0]) := Lib.hid (Own.drew (Own.new w _ _))
  have HMW : Hid (∀ W, Below w.heap.size w W → Mx W) := Lib.hid (fun W hb => hM.call hb)
  have HGW : Hid (∀ W, Below w.heap.size w W → Sg W) := Lib.hid (fun W hb i hi => (hb.cell (p := ⟨_, i, none⟩) hgb).trans (hG i hi))
  have hpi := (pk_in ha).symm
  rw [hp] at hpi
  have HA : Hid (∀ W, Below w.heap.size w W → Calls Tryz.prog 39 #[.pointer (some ⟨S, 0, none⟩)] W (Stp B S t W ((⟨r, (cmE t (a : Int) (a + 1)).1, l, (cmE t (a : Int) (a + 1)).2.1, (cmE t (a : Int) (a + 1)).2.2⟩ : Rs)))) := Lib.hid (fun W hb => (comment_any S a t r v W (Own.kept hS hb) hl ha).mono fun e w' ⟨h1, h2, h3⟩ => Stp.gb (Own.kept hS hb) (Sl.kept hL hS hb) hB h1 h2 h3)
  have HBX := HBW
  have HOX := HOW
  obtain ⟨RR, hRR⟩ : ∃ R : Rs, (⟨r, (cmE t (a : Int) (a + 1)).1, l, (cmE t (a : Int) (a + 1)).2.1, (cmE t (a : Int) (a + 1)).2.2⟩ : Rs) = R := ⟨_, rfl⟩
  rw [hRR] at HA
  rw [hRR]
  clear hRR
  clear hS hL hS0 hM hG hll
  go_enter Tryz.func22, Tryz.ntmps22
  go_upto_region 1 with fail
  go_region
  go_wp2_with (first | (go_at_call 39; (with_reducible refine (HA.out _ HBX.out).mono ?_)))
  rintro e w1 h1
  have hx1 := h1.1
  have ho1 := Stp.own2 HS.out HL.out HBX.out HOX.out h1
  have g0 : w1.cell? ⟨w.heap.size, 0, none⟩ = some (.int .i64 0) := Own.cell ho1.1 0
  have g1 : w1.cell? ⟨w.heap.size, 1, none⟩ = some (.int .i64 0) := Own.cell ho1.1 1
  have gf := fun i => Own.frozen ho1.1 i
  have gl := ho1.2
  have H1 := Lib.hid h1
  have HO := Lib.hid ho1.1
  subst hx1
  clear h1 ho1
  obtain ⟨p', hp'⟩ : ∃ p, (RR).p = p := ⟨_, rfl⟩
  obtain ⟨c', hc'⟩ : ∃ c, (RR).c = c := ⟨_, rfl⟩
  rw [hp', hc']
  have HPP := Lib.hid hp'
  have HCC := Lib.hid hc'
  clear hp' hc'
  go_wp2_with fail
  have hF := (HO.out.put 0 (.int .i64 p')).put 1 (.int .i64 c')
  refine bodyPost_ret (ret_own rfl hF rfl Tryz.underlying26 rfl (by kernel_rfl)) rfl ?_
  have hd := Stp.done2 HS.out HL.out hB HBX.out HOX.out H1.out rfl
  rw [HPP.out, HCC.out] at hd
  exact hd
set_option maxHeartbeats 4000000 in
theorem sp_quo (B S a : Nat) (t : ByteArray) (r : Int) (v : Value) (l : List Sy) (w : World) (hS : Sc w S t r (a : Int) v) (hL : Sl w B v l) (hB : B ≤ S) (hl : t.size ≤ 100000) (hll : l.length ≤ 1000000) (ha : a < t.size) (hM : Mx w) (hG : Sg w) (hgb : 0 < w.heap.size) (hp : pk t a = 34) :
    Calls Tryz.prog 22 #[.pointer (some ⟨S, 0, none⟩)] w (Stp B S t w (quR r t a l)) := by
  have hlt := hS.lt
  have c0 := hS.c0
  have c1 := hS.c1
  have c2 := hS.c2
  have fS := fun i => Own.frozen hS i
  have HS := Lib.hid hS
  have HL := Lib.hid hL
  have hS0 : Sc ((w.alloc (.cells #[.int .i64 0, .int .i64 0] 26)).drew) S t r (a : Int) v := Own.drew (Own.alloc hS _)
  have HBW : Hid (Below w.heap.size w ((w.alloc (.cells #[.int .i64 0, .int .i64 0] 26)).drew)) := Lib.hid ((Below.refl _ w).alloc (Nat.le_refl _) _).drew
  have HOW : Hid (Own ((w.alloc (.cells #[.int .i64 0, .int .i64 0] 26)).drew) w.heap.size 26 [.int .i64 0, .int .i64 0]) := Lib.hid (Own.drew (Own.new w _ _))
  have HMW : Hid (∀ W, Below w.heap.size w W → Mx W) := Lib.hid (fun W hb => hM.call hb)
  have HGW : Hid (∀ W, Below w.heap.size w W → Sg W) := Lib.hid (fun W hb i hi => (hb.cell (p := ⟨_, i, none⟩) hgb).trans (hG i hi))
  have hpi := (pk_in ha).symm
  rw [hp] at hpi
  have HA : Hid (∀ W, Below w.heap.size w W → Calls Tryz.prog 40 #[.pointer (some ⟨S, 0, none⟩)] W (Stp B S t W (quR r t a l))) := Lib.hid (fun W hb => quotation_any B S a t r v l W (Own.kept hS hb) (Sl.kept hL hS hb) hB hl hll ha (HMW.out W hb))
  have HBX := HBW
  have HOX := HOW
  obtain ⟨RR, hRR⟩ : ∃ R : Rs, quR r t a l = R := ⟨_, rfl⟩
  rw [hRR] at HA
  rw [hRR]
  clear hRR
  clear hS hL hS0 hM hG hll
  go_enter Tryz.func22, Tryz.ntmps22
  go_upto_region 1 with fail
  go_region
  go_wp2_with (first | (go_at_call 40; (with_reducible refine (HA.out _ HBX.out).mono ?_)))
  rintro e w1 h1
  have hx1 := h1.1
  have ho1 := Stp.own2 HS.out HL.out HBX.out HOX.out h1
  have g0 : w1.cell? ⟨w.heap.size, 0, none⟩ = some (.int .i64 0) := Own.cell ho1.1 0
  have g1 : w1.cell? ⟨w.heap.size, 1, none⟩ = some (.int .i64 0) := Own.cell ho1.1 1
  have gf := fun i => Own.frozen ho1.1 i
  have gl := ho1.2
  have H1 := Lib.hid h1
  have HO := Lib.hid ho1.1
  subst hx1
  clear h1 ho1
  obtain ⟨p', hp'⟩ : ∃ p, (RR).p = p := ⟨_, rfl⟩
  obtain ⟨c', hc'⟩ : ∃ c, (RR).c = c := ⟨_, rfl⟩
  rw [hp', hc']
  have HPP := Lib.hid hp'
  have HCC := Lib.hid hc'
  clear hp' hc'
  go_wp2_with fail
  have hF := (HO.out.put 0 (.int .i64 p')).put 1 (.int .i64 c')
  refine bodyPost_ret (ret_own rfl hF rfl Tryz.underlying26 rfl (by kernel_rfl)) rfl ?_
  have hd := Stp.done2 HS.out HL.out hB HBX.out HOX.out H1.out rfl
  rw [HPP.out, HCC.out] at hd
  exact hd
set_option maxHeartbeats 4000000 in
theorem sp_for (B S a : Nat) (t : ByteArray) (r : Int) (v : Value) (l : List Sy) (w : World) (hS : Sc w S t r (a : Int) v) (hL : Sl w B v l) (hB : B ≤ S) (hl : t.size ≤ 100000) (hll : l.length ≤ 1000000) (ha : a < t.size) (hM : Mx w) (hG : Sg w) (hgb : 0 < w.heap.size) (hp : pk t a = 36) :
    Calls Tryz.prog 22 #[.pointer (some ⟨S, 0, none⟩)] w (Stp B S t w (fmR r t a l)) := by
  have hlt := hS.lt
  have c0 := hS.c0
  have c1 := hS.c1
  have c2 := hS.c2
  have fS := fun i => Own.frozen hS i
  have HS := Lib.hid hS
  have HL := Lib.hid hL
  have hS0 : Sc ((w.alloc (.cells #[.int .i64 0, .int .i64 0] 26)).drew) S t r (a : Int) v := Own.drew (Own.alloc hS _)
  have HBW : Hid (Below w.heap.size w ((w.alloc (.cells #[.int .i64 0, .int .i64 0] 26)).drew)) := Lib.hid ((Below.refl _ w).alloc (Nat.le_refl _) _).drew
  have HOW : Hid (Own ((w.alloc (.cells #[.int .i64 0, .int .i64 0] 26)).drew) w.heap.size 26 [.int .i64 0, .int .i64 0]) := Lib.hid (Own.drew (Own.new w _ _))
  have HMW : Hid (∀ W, Below w.heap.size w W → Mx W) := Lib.hid (fun W hb => hM.call hb)
  have HGW : Hid (∀ W, Below w.heap.size w W → Sg W) := Lib.hid (fun W hb i hi => (hb.cell (p := ⟨_, i, none⟩) hgb).trans (hG i hi))
  have hpi := (pk_in ha).symm
  rw [hp] at hpi
  have HA : Hid (∀ W, Below w.heap.size w W → Calls Tryz.prog 41 #[.pointer (some ⟨S, 0, none⟩)] W (Stp B S t W (fmR r t a l))) := Lib.hid (fun W hb => format_any B S a t r v l W (Own.kept hS hb) (Sl.kept hL hS hb) hB hl hll ha)
  have HBX := HBW
  have HOX := HOW
  obtain ⟨RR, hRR⟩ : ∃ R : Rs, fmR r t a l = R := ⟨_, rfl⟩
  rw [hRR] at HA
  rw [hRR]
  clear hRR
  clear hS hL hS0 hM hG hll
  go_enter Tryz.func22, Tryz.ntmps22
  go_upto_region 1 with fail
  go_region
  go_wp2_with (first | (go_at_call 41; (with_reducible refine (HA.out _ HBX.out).mono ?_)))
  rintro e w1 h1
  have hx1 := h1.1
  have ho1 := Stp.own2 HS.out HL.out HBX.out HOX.out h1
  have g0 : w1.cell? ⟨w.heap.size, 0, none⟩ = some (.int .i64 0) := Own.cell ho1.1 0
  have g1 : w1.cell? ⟨w.heap.size, 1, none⟩ = some (.int .i64 0) := Own.cell ho1.1 1
  have gf := fun i => Own.frozen ho1.1 i
  have gl := ho1.2
  have H1 := Lib.hid h1
  have HO := Lib.hid ho1.1
  subst hx1
  clear h1 ho1
  obtain ⟨p', hp'⟩ : ∃ p, (RR).p = p := ⟨_, rfl⟩
  obtain ⟨c', hc'⟩ : ∃ c, (RR).c = c := ⟨_, rfl⟩
  rw [hp', hc']
  have HPP := Lib.hid hp'
  have HCC := Lib.hid hc'
  clear hp' hc'
  go_wp2_with fail
  have hF := (HO.out.put 0 (.int .i64 p')).put 1 (.int .i64 c')
  refine bodyPost_ret (ret_own rfl hF rfl Tryz.underlying26 rfl (by kernel_rfl)) rfl ?_
  have hd := Stp.done2 HS.out HL.out hB HBX.out HOX.out H1.out rfl
  rw [HPP.out, HCC.out] at hd
  exact hd
set_option maxHeartbeats 4000000 in
theorem sp_dig (B S a : Nat) (t : ByteArray) (r : Int) (v : Value) (l : List Sy) (w : World) (hS : Sc w S t r (a : Int) v) (hL : Sl w B v l) (hB : B ≤ S) (hl : t.size ≤ 100000) (hll : l.length ≤ 1000000) (ha : a < t.size) (hM : Mx w) (hG : Sg w) (hgb : 0 < w.heap.size) (hd : bDi (pk t a) = true) :
    Calls Tryz.prog 22 #[.pointer (some ⟨S, 0, none⟩)] w (Stp B S t w (nuR r t a l)) := by
  have hlt := hS.lt
  have c0 := hS.c0
  have c1 := hS.c1
  have c2 := hS.c2
  have fS := fun i => Own.frozen hS i
  have HS := Lib.hid hS
  have HL := Lib.hid hL
  have hS0 : Sc ((w.alloc (.cells #[.int .i64 0, .int .i64 0] 26)).drew) S t r (a : Int) v := Own.drew (Own.alloc hS _)
  have HBW : Hid (Below w.heap.size w ((w.alloc (.cells #[.int .i64 0, .int .i64 0] 26)).drew)) := Lib.hid ((Below.refl _ w).alloc (Nat.le_refl _) _).drew
  have HOW : Hid (Own ((w.alloc (.cells #[.int .i64 0, .int .i64 0] 26)).drew) w.heap.size 26 [.int .i64 0, .int .i64 0]) := Lib.hid (Own.drew (Own.new w _ _))
  have HMW : Hid (∀ W, Below w.heap.size w W → Mx W) := Lib.hid (fun W hb => hM.call hb)
  have HGW : Hid (∀ W, Below w.heap.size w W → Sg W) := Lib.hid (fun W hb i hi => (hb.cell (p := ⟨_, i, none⟩) hgb).trans (hG i hi))
  have hpi := (pk_in ha).symm
  have HA : Hid (∀ W, Below w.heap.size w W → Calls Tryz.prog 43 #[.pointer (some ⟨S, 0, none⟩)] W (Stp B S t W (nuR r t a l))) := Lib.hid (fun W hb => number_any B S a t r v l W (Own.kept hS hb) (Sl.kept hL hS hb) hB hl hll (by omega) (HMW.out W hb))
  have HBX := HBW
  have HOX := HOW
  have hp := pk_bd t a
  obtain ⟨p, hpe⟩ : ∃ p, pk t a = p := ⟨_, rfl⟩
  rw [hpe] at hp hpi hd
  obtain ⟨hp0, hp1⟩ := hp
  have HDI := Lib.hid (fun w => by_di p w hp0 hp1)
  have hq : 48 ≤ p ∧ p ≤ 57 := of_decide_eq_true hd
  have n35 : p ≠ 35 := by omega
  have n34 : p ≠ 34 := by omega
  have n36 : p ≠ 36 := by omega
  have k35 : (p == 35) = false := by rw [beq_eq_false_iff_ne]; exact n35
  have k34 : (p == 34) = false := by rw [beq_eq_false_iff_ne]; exact n34
  have k36 : (p == 36) = false := by rw [beq_eq_false_iff_ne]; exact n36
  rw [hd] at HDI
  clear hd hq n35 n34 n36 hpe
  obtain ⟨RR, hRR⟩ : ∃ R : Rs, nuR r t a l = R := ⟨_, rfl⟩
  rw [hRR] at HA
  rw [hRR]
  clear hRR
  clear hS hL hS0 hM hG hll
  go_enter Tryz.func22, Tryz.ntmps22
  go_upto_region 1 with fail
  go_region
  go_wp2_with (first | (go_at_call 42; (with_reducible refine (HDI.out _).mono ?_); rintro e w' ⟨rfl, rfl⟩) | (go_at_call 43; (with_reducible refine (HA.out _ HBX.out).mono ?_)))
  rintro e w1 h1
  have hx1 := h1.1
  have ho1 := Stp.own2 HS.out HL.out HBX.out HOX.out h1
  have g0 : w1.cell? ⟨w.heap.size, 0, none⟩ = some (.int .i64 0) := Own.cell ho1.1 0
  have g1 : w1.cell? ⟨w.heap.size, 1, none⟩ = some (.int .i64 0) := Own.cell ho1.1 1
  have gf := fun i => Own.frozen ho1.1 i
  have gl := ho1.2
  have H1 := Lib.hid h1
  have HO := Lib.hid ho1.1
  subst hx1
  clear h1 ho1
  obtain ⟨p', hp'⟩ : ∃ p, (RR).p = p := ⟨_, rfl⟩
  obtain ⟨c', hc'⟩ : ∃ c, (RR).c = c := ⟨_, rfl⟩
  rw [hp', hc']
  have HPP := Lib.hid hp'
  have HCC := Lib.hid hc'
  clear hp' hc'
  go_wp2_with fail
  have hF := (HO.out.put 0 (.int .i64 p')).put 1 (.int .i64 c')
  refine bodyPost_ret (ret_own rfl hF rfl Tryz.underlying26 rfl (by kernel_rfl)) rfl ?_
  have hd := Stp.done2 HS.out HL.out hB HBX.out HOX.out H1.out rfl
  rw [HPP.out, HCC.out] at hd
  exact hd
set_option maxHeartbeats 4000000 in
theorem sp_pnt (B S a : Nat) (t : ByteArray) (r : Int) (v : Value) (l : List Sy) (w : World) (hS : Sc w S t r (a : Int) v) (hL : Sl w B v l) (hB : B ≤ S) (hl : t.size ≤ 100000) (hll : l.length ≤ 1000000) (ha : a < t.size) (hM : Mx w) (hG : Sg w) (hgb : 0 < w.heap.size) (hp : pk t a = 46) (hd : bDi (pk t (a + 1)) = true) :
    Calls Tryz.prog 22 #[.pointer (some ⟨S, 0, none⟩)] w (Stp B S t w (nuR r t a l)) := by
  have hlt := hS.lt
  have c0 := hS.c0
  have c1 := hS.c1
  have c2 := hS.c2
  have fS := fun i => Own.frozen hS i
  have HS := Lib.hid hS
  have HL := Lib.hid hL
  have hS0 : Sc ((w.alloc (.cells #[.int .i64 0, .int .i64 0] 26)).drew) S t r (a : Int) v := Own.drew (Own.alloc hS _)
  have HBW : Hid (Below w.heap.size w ((w.alloc (.cells #[.int .i64 0, .int .i64 0] 26)).drew)) := Lib.hid ((Below.refl _ w).alloc (Nat.le_refl _) _).drew
  have HOW : Hid (Own ((w.alloc (.cells #[.int .i64 0, .int .i64 0] 26)).drew) w.heap.size 26 [.int .i64 0, .int .i64 0]) := Lib.hid (Own.drew (Own.new w _ _))
  have HMW : Hid (∀ W, Below w.heap.size w W → Mx W) := Lib.hid (fun W hb => hM.call hb)
  have HGW : Hid (∀ W, Below w.heap.size w W → Sg W) := Lib.hid (fun W hb i hi => (hb.cell (p := ⟨_, i, none⟩) hgb).trans (hG i hi))
  have hpi := (pk_in ha).symm
  have HA : Hid (∀ W, Below w.heap.size w W → Calls Tryz.prog 43 #[.pointer (some ⟨S, 0, none⟩)] W (Stp B S t W (nuR r t a l))) := Lib.hid (fun W hb => number_any B S a t r v l W (Own.kept hS hb) (Sl.kept hL hS hb) hB hl hll (by omega) (HMW.out W hb))
  have HBX := HBW
  have HOX := HOW
  rw [hp] at hpi
  have hq := pk_bd t (a + 1)
  have hpk := peek_any t S (a + 1) _ hS0.c0 hl (by omega)
  rw [show ((a + 1 : Nat) : Int) = (a : Int) + 1 by omega] at hpk
  obtain ⟨q, hqe⟩ : ∃ q, pk t (a + 1) = q := ⟨_, rfl⟩
  rw [hqe] at hq hpk hd
  have HPK := Lib.hid hpk
  obtain ⟨hq0, hq1⟩ := hq
  have HDI := Lib.hid (fun w => by_di 46 w (by decide) (by decide))
  have HDQ := Lib.hid (fun w => by_di q w hq0 hq1)
  rw [show bDi 46 = false from rfl] at HDI
  rw [hd] at HDQ
  clear hd hqe hpk
  obtain ⟨RR, hRR⟩ : ∃ R : Rs, nuR r t a l = R := ⟨_, rfl⟩
  rw [hRR] at HA
  rw [hRR]
  clear hRR
  clear hS hL hS0 hM hG hll
  go_enter Tryz.func22, Tryz.ntmps22
  go_upto_region 1 with fail
  go_region
  go_wp2_with (first | (go_at_call 42; (with_reducible refine (HDI.out _).mono ?_); rintro e w' ⟨rfl, rfl⟩) | (go_at_call 42; (with_reducible refine (HDQ.out _).mono ?_); rintro e w' ⟨rfl, rfl⟩) | (go_at_call 38; (with_reducible refine (HPK.out).mono ?_); rintro e w' ⟨rfl, rfl⟩) | (go_at_call 43; (with_reducible refine (HA.out _ HBX.out).mono ?_)))
  rintro e w1 h1
  have hx1 := h1.1
  have ho1 := Stp.own2 HS.out HL.out HBX.out HOX.out h1
  have g0 : w1.cell? ⟨w.heap.size, 0, none⟩ = some (.int .i64 0) := Own.cell ho1.1 0
  have g1 : w1.cell? ⟨w.heap.size, 1, none⟩ = some (.int .i64 0) := Own.cell ho1.1 1
  have gf := fun i => Own.frozen ho1.1 i
  have gl := ho1.2
  have H1 := Lib.hid h1
  have HO := Lib.hid ho1.1
  subst hx1
  clear h1 ho1
  obtain ⟨p', hp'⟩ : ∃ p, (RR).p = p := ⟨_, rfl⟩
  obtain ⟨c', hc'⟩ : ∃ c, (RR).c = c := ⟨_, rfl⟩
  rw [hp', hc']
  have HPP := Lib.hid hp'
  have HCC := Lib.hid hc'
  clear hp' hc'
  go_wp2_with fail
  have hF := (HO.out.put 0 (.int .i64 p')).put 1 (.int .i64 c')
  refine bodyPost_ret (ret_own rfl hF rfl Tryz.underlying26 rfl (by kernel_rfl)) rfl ?_
  have hd := Stp.done2 HS.out HL.out hB HBX.out HOX.out H1.out rfl
  rw [HPP.out, HCC.out] at hd
  exact hd
set_option maxHeartbeats 4000000 in
theorem sp_tag (B S a : Nat) (t : ByteArray) (r : Int) (v : Value) (l : List Sy) (w : World) (hS : Sc w S t r (a : Int) v) (hL : Sl w B v l) (hB : B ≤ S) (hl : t.size ≤ 100000) (hll : l.length ≤ 1000000) (ha : a < t.size) (hM : Mx w) (hG : Sg w) (hgb : 0 < w.heap.size) (n35 : pk t a ≠ 35) (n34 : pk t a ≠ 34) (n36 : pk t a ≠ 36) (n46 : pk t a ≠ 46) (hd : bDi (pk t a) = false) (hm : bSm (ch r t a) = true) (x : ByteArray) (z : Nat) (hx : (⟨(rnF bSd bSd0 r t a).1.toArray⟩ : ByteArray) = x) (hz : (rnF bSd bSd0 r t a).2 = z) :
    Calls Tryz.prog 22 #[.pointer (some ⟨S, 0, none⟩)] w (Stp B S t w (shR r (a : Int) (z : Int) 2 x l)) := by
  have hlt := hS.lt
  have c0 := hS.c0
  have c1 := hS.c1
  have c2 := hS.c2
  have fS := fun i => Own.frozen hS i
  have HS := Lib.hid hS
  have HL := Lib.hid hL
  have hS0 : Sc ((w.alloc (.cells #[.int .i64 0, .int .i64 0] 26)).drew) S t r (a : Int) v := Own.drew (Own.alloc hS _)
  have HBW : Hid (Below w.heap.size w ((w.alloc (.cells #[.int .i64 0, .int .i64 0] 26)).drew)) := Lib.hid ((Below.refl _ w).alloc (Nat.le_refl _) _).drew
  have HOW : Hid (Own ((w.alloc (.cells #[.int .i64 0, .int .i64 0] 26)).drew) w.heap.size 26 [.int .i64 0, .int .i64 0]) := Lib.hid (Own.drew (Own.new w _ _))
  have HMW : Hid (∀ W, Below w.heap.size w W → Mx W) := Lib.hid (fun W hb => hM.call hb)
  have HGW : Hid (∀ W, Below w.heap.size w W → Sg W) := Lib.hid (fun W hb i hi => (hb.cell (p := ⟨_, i, none⟩) hgb).trans (hG i hi))
  have hpi := (pk_in ha).symm
  have HRU := Lib.hid (run_sd t S a r _ hS0.c0 hS0.c1 hl (by omega))
  have hxs : x.size ≤ 200000 := by
    rw [← hx]
    show (rnF bSd bSd0 r t a).1.toArray.size ≤ _
    rw [List.size_toArray]
    have := rn_len bSd bSd0 r t (sk t a) a
    unfold rnF
    omega
  rw [hx, hz] at HRU
  clear hx hz
  have HA : Hid (∀ W, Below w.heap.size w W → Calls Tryz.prog 48 #[.pointer (some ⟨S, 0, none⟩), .int .i64 2, .string x, .int .i64 (z : Int)] W (Stp B S t W (shR r (a : Int) (z : Int) 2 x l))) := Lib.hid (fun W hb => short_any B S t r a 2 z x v l W (Own.kept hS hb) (Sl.kept hL hS hb) hB hll hxs)
  have hp := pk_bd t a
  obtain ⟨p, hpe⟩ : ∃ p, pk t a = p := ⟨_, rfl⟩
  rw [hpe] at hp hpi hd n35 n34 n36 n46
  obtain ⟨hp0, hp1⟩ := hp
  have HDI := Lib.hid (fun w => by_di p w hp0 hp1)
  have k35 : (p == 35) = false := by rw [beq_eq_false_iff_ne]; exact n35
  have k34 : (p == 34) = false := by rw [beq_eq_false_iff_ne]; exact n34
  have k36 : (p == 36) = false := by rw [beq_eq_false_iff_ne]; exact n36
  have k46 : (p == 46) = false := by rw [beq_eq_false_iff_ne]; exact n46
  rw [hd] at HDI
  clear hd n35 n34 n36 n46 hpe
  have hc := ch_bd r t a
  have HCH := Lib.hid (char_any t S a r _ hS0.c0 hS0.c1 hl (by omega))
  obtain ⟨c, hce⟩ : ∃ c, ch r t a = c := ⟨_, rfl⟩
  rw [hce] at hc HCH hm
  obtain ⟨hc0, hc1⟩ := hc
  have HSM := Lib.hid (fun w => by_sm c w hc0 hc1)
  rw [hm] at HSM
  clear hm hce
  obtain ⟨RR, hRR⟩ : ∃ R : Rs, shR r (a : Int) (z : Int) 2 x l = R := ⟨_, rfl⟩
  rw [hRR] at HA
  rw [hRR]
  clear hRR
  clear hS hL hS0 hM hG hll
  go_enter Tryz.func22, Tryz.ntmps22
  go_upto_region 1 with fail
  go_region
  go_wp2_with (first | (go_at_call 42; (with_reducible refine (HDI.out _).mono ?_); rintro e w' ⟨rfl, rfl⟩) | (go_at_call 45; (with_reducible refine (HCH.out).mono ?_); rintro e w' ⟨rfl, rfl⟩) | (go_at_call 44; (with_reducible refine (HSM.out _).mono ?_); rintro e w' ⟨rfl, rfl⟩) | (go_at_call 46; (with_reducible refine HRU.out.mono ?_); rintro e w5 ⟨rfl, hb5⟩; (have HBX : Hid (Below w.heap.size w w5) := Lib.hid (HBW.out.trans (hb5.mono (by simp [sz_drew])))); (have HOX := Lib.hid (HOW.out.kept hb5))) | (go_at_call 48; (with_reducible refine (HA.out _ HBX.out).mono ?_)))
  rintro e w1 h1
  have hx1 := h1.1
  have ho1 := Stp.own2 HS.out HL.out HBX.out HOX.out h1
  have g0 : w1.cell? ⟨w.heap.size, 0, none⟩ = some (.int .i64 0) := Own.cell ho1.1 0
  have g1 : w1.cell? ⟨w.heap.size, 1, none⟩ = some (.int .i64 0) := Own.cell ho1.1 1
  have gf := fun i => Own.frozen ho1.1 i
  have gl := ho1.2
  have H1 := Lib.hid h1
  have HO := Lib.hid ho1.1
  subst hx1
  clear h1 ho1
  obtain ⟨p', hp'⟩ : ∃ p, (RR).p = p := ⟨_, rfl⟩
  obtain ⟨c', hc'⟩ : ∃ c, (RR).c = c := ⟨_, rfl⟩
  rw [hp', hc']
  have HPP := Lib.hid hp'
  have HCC := Lib.hid hc'
  clear hp' hc'
  go_wp2_with fail
  have hF := (HO.out.put 0 (.int .i64 p')).put 1 (.int .i64 c')
  refine bodyPost_ret (ret_own rfl hF rfl Tryz.underlying26 rfl (by kernel_rfl)) rfl ?_
  have hd := Stp.done2 HS.out HL.out hB HBX.out HOX.out H1.out rfl
  rw [HPP.out, HCC.out] at hd
  exact hd
set_option maxHeartbeats 4000000 in
theorem sp_wrdn (B S a : Nat) (t : ByteArray) (r : Int) (v : Value) (l : List Sy) (w : World) (hS : Sc w S t r (a : Int) v) (hL : Sl w B v l) (hB : B ≤ S) (hl : t.size ≤ 100000) (hll : l.length ≤ 1000000) (ha : a < t.size) (hM : Mx w) (hG : Sg w) (hgb : 0 < w.heap.size) (n35 : pk t a ≠ 35) (n34 : pk t a ≠ 34) (n36 : pk t a ≠ 36) (n46 : pk t a ≠ 46) (hd : bDi (pk t a) = false) (hm : bSm (ch r t a) = false) (x : ByteArray) (z : Nat) (hb : bdF r t a = (x, z)) (hx : x ≠ ⟨#[]⟩) :
    Calls Tryz.prog 22 #[.pointer (some ⟨S, 0, none⟩)] w (Stp B S t w (wdR r t x (a : Int) z l)) := by
  have hlt := hS.lt
  have c0 := hS.c0
  have c1 := hS.c1
  have c2 := hS.c2
  have fS := fun i => Own.frozen hS i
  have HS := Lib.hid hS
  have HL := Lib.hid hL
  have hS0 : Sc ((w.alloc (.cells #[.int .i64 0, .int .i64 0] 26)).drew) S t r (a : Int) v := Own.drew (Own.alloc hS _)
  have HBW : Hid (Below w.heap.size w ((w.alloc (.cells #[.int .i64 0, .int .i64 0] 26)).drew)) := Lib.hid ((Below.refl _ w).alloc (Nat.le_refl _) _).drew
  have HOW : Hid (Own ((w.alloc (.cells #[.int .i64 0, .int .i64 0] 26)).drew) w.heap.size 26 [.int .i64 0, .int .i64 0]) := Lib.hid (Own.drew (Own.new w _ _))
  have HMW : Hid (∀ W, Below w.heap.size w W → Mx W) := Lib.hid (fun W hb => hM.call hb)
  have HGW : Hid (∀ W, Below w.heap.size w W → Sg W) := Lib.hid (fun W hb i hi => (hb.cell (p := ⟨_, i, none⟩) hgb).trans (hG i hi))
  have hpi := (pk_in ha).symm
  have HBO := Lib.hid (bold_any t S a r _ hS0.c0 hS0.c1 hl (by omega))
  have hxs := bd_size r t a
  have hze := (bd_end r t a ha).2
  rw [hb] at HBO hxs hze
  simp only at HBO hxs hze
  have hz1 : 1 ≤ z := by
    have := bd_up (r := r) (t := t) (a := a) (by rw [hb]; exact hx)
    rw [hb] at this
    simp only at this
    omega
  have hxe : x.toList.isEmpty = false := full_bytes hx
  clear hb hx
  have HA : Hid (∀ W, Below w.heap.size w W → Calls Tryz.prog 50 #[.pointer (some ⟨S, 0, none⟩), .string x, .int .i64 (z : Int)] W (Stp B S t W (wdR r t x (a : Int) z l))) := Lib.hid (fun W hb => word_any B S a z t x r v l W (Own.kept hS hb) (Sl.kept hL hS hb) hB hl hll (by omega) hz1 hze)
  have hp := pk_bd t a
  obtain ⟨p, hpe⟩ : ∃ p, pk t a = p := ⟨_, rfl⟩
  rw [hpe] at hp hpi hd n35 n34 n36 n46
  obtain ⟨hp0, hp1⟩ := hp
  have HDI := Lib.hid (fun w => by_di p w hp0 hp1)
  have k35 : (p == 35) = false := by rw [beq_eq_false_iff_ne]; exact n35
  have k34 : (p == 34) = false := by rw [beq_eq_false_iff_ne]; exact n34
  have k36 : (p == 36) = false := by rw [beq_eq_false_iff_ne]; exact n36
  have k46 : (p == 46) = false := by rw [beq_eq_false_iff_ne]; exact n46
  rw [hd] at HDI
  clear hd n35 n34 n36 n46 hpe
  have hc := ch_bd r t a
  have HCH := Lib.hid (char_any t S a r _ hS0.c0 hS0.c1 hl (by omega))
  obtain ⟨c, hce⟩ : ∃ c, ch r t a = c := ⟨_, rfl⟩
  rw [hce] at hc HCH hm
  obtain ⟨hc0, hc1⟩ := hc
  have HSM := Lib.hid (fun w => by_sm c w hc0 hc1)
  rw [hm] at HSM
  clear hm hce
  obtain ⟨RR, hRR⟩ : ∃ R : Rs, wdR r t x (a : Int) z l = R := ⟨_, rfl⟩
  rw [hRR] at HA
  rw [hRR]
  clear hRR
  clear hS hL hS0 hM hG hll
  go_enter Tryz.func22, Tryz.ntmps22
  go_upto_region 1 with fail
  go_region
  go_wp2_with (first | (go_at_call 42; (with_reducible refine (HDI.out _).mono ?_); rintro e w' ⟨rfl, rfl⟩) | (go_at_call 45; (with_reducible refine (HCH.out).mono ?_); rintro e w' ⟨rfl, rfl⟩) | (go_at_call 44; (with_reducible refine (HSM.out _).mono ?_); rintro e w' ⟨rfl, rfl⟩) | (go_at_call 49; (with_reducible refine HBO.out.mono ?_); rintro e w5 ⟨rfl, hb5⟩; (have HBX : Hid (Below w.heap.size w w5) := Lib.hid (HBW.out.trans (hb5.mono (by simp [sz_drew])))); (have HOX := Lib.hid (HOW.out.kept hb5))) | (go_at_call 50; (with_reducible refine (HA.out _ HBX.out).mono ?_)))
  rintro e w1 h1
  have hx1 := h1.1
  have ho1 := Stp.own2 HS.out HL.out HBX.out HOX.out h1
  have g0 : w1.cell? ⟨w.heap.size, 0, none⟩ = some (.int .i64 0) := Own.cell ho1.1 0
  have g1 : w1.cell? ⟨w.heap.size, 1, none⟩ = some (.int .i64 0) := Own.cell ho1.1 1
  have gf := fun i => Own.frozen ho1.1 i
  have gl := ho1.2
  have H1 := Lib.hid h1
  have HO := Lib.hid ho1.1
  subst hx1
  clear h1 ho1
  obtain ⟨p', hp'⟩ : ∃ p, (RR).p = p := ⟨_, rfl⟩
  obtain ⟨c', hc'⟩ : ∃ c, (RR).c = c := ⟨_, rfl⟩
  rw [hp', hc']
  have HPP := Lib.hid hp'
  have HCC := Lib.hid hc'
  clear hp' hc'
  go_wp2_with fail
  have hF := (HO.out.put 0 (.int .i64 p')).put 1 (.int .i64 c')
  refine bodyPost_ret (ret_own rfl hF rfl Tryz.underlying26 rfl (by kernel_rfl)) rfl ?_
  have hd := Stp.done2 HS.out HL.out hB HBX.out HOX.out H1.out rfl
  rw [HPP.out, HCC.out] at hd
  exact hd
set_option maxHeartbeats 4000000 in
theorem sp_sgnn (B S a : Nat) (t : ByteArray) (r : Int) (v : Value) (l : List Sy) (w : World) (hS : Sc w S t r (a : Int) v) (hL : Sl w B v l) (hB : B ≤ S) (hl : t.size ≤ 100000) (hll : l.length ≤ 1000000) (ha : a < t.size) (hM : Mx w) (hG : Sg w) (hgb : 0 < w.heap.size) (n35 : pk t a ≠ 35) (n34 : pk t a ≠ 34) (n36 : pk t a ≠ 36) (n46 : pk t a ≠ 46) (hd : bDi (pk t a) = false) (hm : bSm (ch r t a) = false) (z : Nat) (hb : bdF r t a = (⟨#[]⟩, z)) :
    Calls Tryz.prog 22 #[.pointer (some ⟨S, 0, none⟩)] w (Stp B S t w (snR r t a l)) := by
  have hlt := hS.lt
  have c0 := hS.c0
  have c1 := hS.c1
  have c2 := hS.c2
  have fS := fun i => Own.frozen hS i
  have HS := Lib.hid hS
  have HL := Lib.hid hL
  have hS0 : Sc ((w.alloc (.cells #[.int .i64 0, .int .i64 0] 26)).drew) S t r (a : Int) v := Own.drew (Own.alloc hS _)
  have HBW : Hid (Below w.heap.size w ((w.alloc (.cells #[.int .i64 0, .int .i64 0] 26)).drew)) := Lib.hid ((Below.refl _ w).alloc (Nat.le_refl _) _).drew
  have HOW : Hid (Own ((w.alloc (.cells #[.int .i64 0, .int .i64 0] 26)).drew) w.heap.size 26 [.int .i64 0, .int .i64 0]) := Lib.hid (Own.drew (Own.new w _ _))
  have HMW : Hid (∀ W, Below w.heap.size w W → Mx W) := Lib.hid (fun W hb => hM.call hb)
  have HGW : Hid (∀ W, Below w.heap.size w W → Sg W) := Lib.hid (fun W hb i hi => (hb.cell (p := ⟨_, i, none⟩) hgb).trans (hG i hi))
  have hpi := (pk_in ha).symm
  have HBO := Lib.hid (bold_any t S a r _ hS0.c0 hS0.c1 hl (by omega))
  have hxs := bd_size r t a
  have hze := (bd_end r t a ha).2
  rw [hb] at HBO hxs hze
  simp only at HBO hxs hze
  clear hb
  have HA : Hid (∀ W, Below w.heap.size w W → Calls Tryz.prog 51 #[.pointer (some ⟨S, 0, none⟩)] W (Stp B S t W (snR r t a l))) := Lib.hid (fun W hb => sign_any B S a t r v l W (Own.kept hS hb) (Sl.kept hL hS hb) hB hl hll ha (HGW.out W hb))
  have hp := pk_bd t a
  obtain ⟨p, hpe⟩ : ∃ p, pk t a = p := ⟨_, rfl⟩
  rw [hpe] at hp hpi hd n35 n34 n36 n46
  obtain ⟨hp0, hp1⟩ := hp
  have HDI := Lib.hid (fun w => by_di p w hp0 hp1)
  have k35 : (p == 35) = false := by rw [beq_eq_false_iff_ne]; exact n35
  have k34 : (p == 34) = false := by rw [beq_eq_false_iff_ne]; exact n34
  have k36 : (p == 36) = false := by rw [beq_eq_false_iff_ne]; exact n36
  have k46 : (p == 46) = false := by rw [beq_eq_false_iff_ne]; exact n46
  rw [hd] at HDI
  clear hd n35 n34 n36 n46 hpe
  have hc := ch_bd r t a
  have HCH := Lib.hid (char_any t S a r _ hS0.c0 hS0.c1 hl (by omega))
  obtain ⟨c, hce⟩ : ∃ c, ch r t a = c := ⟨_, rfl⟩
  rw [hce] at hc HCH hm
  obtain ⟨hc0, hc1⟩ := hc
  have HSM := Lib.hid (fun w => by_sm c w hc0 hc1)
  rw [hm] at HSM
  clear hm hce
  obtain ⟨RR, hRR⟩ : ∃ R : Rs, snR r t a l = R := ⟨_, rfl⟩
  rw [hRR] at HA
  rw [hRR]
  clear hRR
  clear hS hL hS0 hM hG hll
  go_enter Tryz.func22, Tryz.ntmps22
  go_upto_region 1 with fail
  go_region
  go_wp2_with (first | (go_at_call 42; (with_reducible refine (HDI.out _).mono ?_); rintro e w' ⟨rfl, rfl⟩) | (go_at_call 45; (with_reducible refine (HCH.out).mono ?_); rintro e w' ⟨rfl, rfl⟩) | (go_at_call 44; (with_reducible refine (HSM.out _).mono ?_); rintro e w' ⟨rfl, rfl⟩) | (go_at_call 49; (with_reducible refine HBO.out.mono ?_); rintro e w5 ⟨rfl, hb5⟩; (have HBX : Hid (Below w.heap.size w w5) := Lib.hid (HBW.out.trans (hb5.mono (by simp [sz_drew])))); (have HOX := Lib.hid (HOW.out.kept hb5))) | (go_at_call 51; (with_reducible refine (HA.out _ HBX.out).mono ?_)))
  rintro e w1 h1
  have hx1 := h1.1
  have ho1 := Stp.own2 HS.out HL.out HBX.out HOX.out h1
  have g0 : w1.cell? ⟨w.heap.size, 0, none⟩ = some (.int .i64 0) := Own.cell ho1.1 0
  have g1 : w1.cell? ⟨w.heap.size, 1, none⟩ = some (.int .i64 0) := Own.cell ho1.1 1
  have gf := fun i => Own.frozen ho1.1 i
  have gl := ho1.2
  have H1 := Lib.hid h1
  have HO := Lib.hid ho1.1
  subst hx1
  clear h1 ho1
  obtain ⟨p', hp'⟩ : ∃ p, (RR).p = p := ⟨_, rfl⟩
  obtain ⟨c', hc'⟩ : ∃ c, (RR).c = c := ⟨_, rfl⟩
  rw [hp', hc']
  have HPP := Lib.hid hp'
  have HCC := Lib.hid hc'
  clear hp' hc'
  go_wp2_with fail
  have hF := (HO.out.put 0 (.int .i64 p')).put 1 (.int .i64 c')
  refine bodyPost_ret (ret_own rfl hF rfl Tryz.underlying26 rfl (by kernel_rfl)) rfl ?_
  have hd := Stp.done2 HS.out HL.out hB HBX.out HOX.out H1.out rfl
  rw [HPP.out, HCC.out] at hd
  exact hd
set_option maxHeartbeats 4000000 in
theorem sp_wrdp (B S a : Nat) (t : ByteArray) (r : Int) (v : Value) (l : List Sy) (w : World) (hS : Sc w S t r (a : Int) v) (hL : Sl w B v l) (hB : B ≤ S) (hl : t.size ≤ 100000) (hll : l.length ≤ 1000000) (ha : a < t.size) (hM : Mx w) (hG : Sg w) (hgb : 0 < w.heap.size) (hp : pk t a = 46) (hd : bDi (pk t (a + 1)) = false) (hm : bSm (ch r t a) = false) (x : ByteArray) (z : Nat) (hb : bdF r t a = (x, z)) (hx : x ≠ ⟨#[]⟩) :
    Calls Tryz.prog 22 #[.pointer (some ⟨S, 0, none⟩)] w (Stp B S t w (wdR r t x (a : Int) z l)) := by
  have hlt := hS.lt
  have c0 := hS.c0
  have c1 := hS.c1
  have c2 := hS.c2
  have fS := fun i => Own.frozen hS i
  have HS := Lib.hid hS
  have HL := Lib.hid hL
  have hS0 : Sc ((w.alloc (.cells #[.int .i64 0, .int .i64 0] 26)).drew) S t r (a : Int) v := Own.drew (Own.alloc hS _)
  have HBW : Hid (Below w.heap.size w ((w.alloc (.cells #[.int .i64 0, .int .i64 0] 26)).drew)) := Lib.hid ((Below.refl _ w).alloc (Nat.le_refl _) _).drew
  have HOW : Hid (Own ((w.alloc (.cells #[.int .i64 0, .int .i64 0] 26)).drew) w.heap.size 26 [.int .i64 0, .int .i64 0]) := Lib.hid (Own.drew (Own.new w _ _))
  have HMW : Hid (∀ W, Below w.heap.size w W → Mx W) := Lib.hid (fun W hb => hM.call hb)
  have HGW : Hid (∀ W, Below w.heap.size w W → Sg W) := Lib.hid (fun W hb i hi => (hb.cell (p := ⟨_, i, none⟩) hgb).trans (hG i hi))
  have hpi := (pk_in ha).symm
  have HBO := Lib.hid (bold_any t S a r _ hS0.c0 hS0.c1 hl (by omega))
  have hxs := bd_size r t a
  have hze := (bd_end r t a ha).2
  rw [hb] at HBO hxs hze
  simp only at HBO hxs hze
  have hz1 : 1 ≤ z := by
    have := bd_up (r := r) (t := t) (a := a) (by rw [hb]; exact hx)
    rw [hb] at this
    simp only at this
    omega
  have hxe : x.toList.isEmpty = false := full_bytes hx
  clear hb hx
  have HA : Hid (∀ W, Below w.heap.size w W → Calls Tryz.prog 50 #[.pointer (some ⟨S, 0, none⟩), .string x, .int .i64 (z : Int)] W (Stp B S t W (wdR r t x (a : Int) z l))) := Lib.hid (fun W hb => word_any B S a z t x r v l W (Own.kept hS hb) (Sl.kept hL hS hb) hB hl hll (by omega) hz1 hze)
  rw [hp] at hpi
  have hq := pk_bd t (a + 1)
  have hpk := peek_any t S (a + 1) _ hS0.c0 hl (by omega)
  rw [show ((a + 1 : Nat) : Int) = (a : Int) + 1 by omega] at hpk
  obtain ⟨q, hqe⟩ : ∃ q, pk t (a + 1) = q := ⟨_, rfl⟩
  rw [hqe] at hq hpk hd
  have HPK := Lib.hid hpk
  obtain ⟨hq0, hq1⟩ := hq
  have HDI := Lib.hid (fun w => by_di 46 w (by decide) (by decide))
  have HDQ := Lib.hid (fun w => by_di q w hq0 hq1)
  rw [show bDi 46 = false from rfl] at HDI
  rw [hd] at HDQ
  clear hd hqe hpk
  have hc := ch_bd r t a
  have HCH := Lib.hid (char_any t S a r _ hS0.c0 hS0.c1 hl (by omega))
  obtain ⟨c, hce⟩ : ∃ c, ch r t a = c := ⟨_, rfl⟩
  rw [hce] at hc HCH hm
  obtain ⟨hc0, hc1⟩ := hc
  have HSM := Lib.hid (fun w => by_sm c w hc0 hc1)
  rw [hm] at HSM
  clear hm hce
  obtain ⟨RR, hRR⟩ : ∃ R : Rs, wdR r t x (a : Int) z l = R := ⟨_, rfl⟩
  rw [hRR] at HA
  rw [hRR]
  clear hRR
  clear hS hL hS0 hM hG hll
  go_enter Tryz.func22, Tryz.ntmps22
  go_upto_region 1 with fail
  go_region
  go_wp2_with (first | (go_at_call 42; (with_reducible refine (HDI.out _).mono ?_); rintro e w' ⟨rfl, rfl⟩) | (go_at_call 42; (with_reducible refine (HDQ.out _).mono ?_); rintro e w' ⟨rfl, rfl⟩) | (go_at_call 38; (with_reducible refine (HPK.out).mono ?_); rintro e w' ⟨rfl, rfl⟩) | (go_at_call 45; (with_reducible refine (HCH.out).mono ?_); rintro e w' ⟨rfl, rfl⟩) | (go_at_call 44; (with_reducible refine (HSM.out _).mono ?_); rintro e w' ⟨rfl, rfl⟩) | (go_at_call 49; (with_reducible refine HBO.out.mono ?_); rintro e w5 ⟨rfl, hb5⟩; (have HBX : Hid (Below w.heap.size w w5) := Lib.hid (HBW.out.trans (hb5.mono (by simp [sz_drew])))); (have HOX := Lib.hid (HOW.out.kept hb5))) | (go_at_call 50; (with_reducible refine (HA.out _ HBX.out).mono ?_)))
  rintro e w1 h1
  have hx1 := h1.1
  have ho1 := Stp.own2 HS.out HL.out HBX.out HOX.out h1
  have g0 : w1.cell? ⟨w.heap.size, 0, none⟩ = some (.int .i64 0) := Own.cell ho1.1 0
  have g1 : w1.cell? ⟨w.heap.size, 1, none⟩ = some (.int .i64 0) := Own.cell ho1.1 1
  have gf := fun i => Own.frozen ho1.1 i
  have gl := ho1.2
  have H1 := Lib.hid h1
  have HO := Lib.hid ho1.1
  subst hx1
  clear h1 ho1
  obtain ⟨p', hp'⟩ : ∃ p, (RR).p = p := ⟨_, rfl⟩
  obtain ⟨c', hc'⟩ : ∃ c, (RR).c = c := ⟨_, rfl⟩
  rw [hp', hc']
  have HPP := Lib.hid hp'
  have HCC := Lib.hid hc'
  clear hp' hc'
  go_wp2_with fail
  have hF := (HO.out.put 0 (.int .i64 p')).put 1 (.int .i64 c')
  refine bodyPost_ret (ret_own rfl hF rfl Tryz.underlying26 rfl (by kernel_rfl)) rfl ?_
  have hd := Stp.done2 HS.out HL.out hB HBX.out HOX.out H1.out rfl
  rw [HPP.out, HCC.out] at hd
  exact hd
set_option maxHeartbeats 4000000 in
theorem sp_sgnp (B S a : Nat) (t : ByteArray) (r : Int) (v : Value) (l : List Sy) (w : World) (hS : Sc w S t r (a : Int) v) (hL : Sl w B v l) (hB : B ≤ S) (hl : t.size ≤ 100000) (hll : l.length ≤ 1000000) (ha : a < t.size) (hM : Mx w) (hG : Sg w) (hgb : 0 < w.heap.size) (hp : pk t a = 46) (hd : bDi (pk t (a + 1)) = false) (hm : bSm (ch r t a) = false) (z : Nat) (hb : bdF r t a = (⟨#[]⟩, z)) :
    Calls Tryz.prog 22 #[.pointer (some ⟨S, 0, none⟩)] w (Stp B S t w (snR r t a l)) := by
  have hlt := hS.lt
  have c0 := hS.c0
  have c1 := hS.c1
  have c2 := hS.c2
  have fS := fun i => Own.frozen hS i
  have HS := Lib.hid hS
  have HL := Lib.hid hL
  have hS0 : Sc ((w.alloc (.cells #[.int .i64 0, .int .i64 0] 26)).drew) S t r (a : Int) v := Own.drew (Own.alloc hS _)
  have HBW : Hid (Below w.heap.size w ((w.alloc (.cells #[.int .i64 0, .int .i64 0] 26)).drew)) := Lib.hid ((Below.refl _ w).alloc (Nat.le_refl _) _).drew
  have HOW : Hid (Own ((w.alloc (.cells #[.int .i64 0, .int .i64 0] 26)).drew) w.heap.size 26 [.int .i64 0, .int .i64 0]) := Lib.hid (Own.drew (Own.new w _ _))
  have HMW : Hid (∀ W, Below w.heap.size w W → Mx W) := Lib.hid (fun W hb => hM.call hb)
  have HGW : Hid (∀ W, Below w.heap.size w W → Sg W) := Lib.hid (fun W hb i hi => (hb.cell (p := ⟨_, i, none⟩) hgb).trans (hG i hi))
  have hpi := (pk_in ha).symm
  have HBO := Lib.hid (bold_any t S a r _ hS0.c0 hS0.c1 hl (by omega))
  have hxs := bd_size r t a
  have hze := (bd_end r t a ha).2
  rw [hb] at HBO hxs hze
  simp only at HBO hxs hze
  clear hb
  have HA : Hid (∀ W, Below w.heap.size w W → Calls Tryz.prog 51 #[.pointer (some ⟨S, 0, none⟩)] W (Stp B S t W (snR r t a l))) := Lib.hid (fun W hb => sign_any B S a t r v l W (Own.kept hS hb) (Sl.kept hL hS hb) hB hl hll ha (HGW.out W hb))
  rw [hp] at hpi
  have hq := pk_bd t (a + 1)
  have hpk := peek_any t S (a + 1) _ hS0.c0 hl (by omega)
  rw [show ((a + 1 : Nat) : Int) = (a : Int) + 1 by omega] at hpk
  obtain ⟨q, hqe⟩ : ∃ q, pk t (a + 1) = q := ⟨_, rfl⟩
  rw [hqe] at hq hpk hd
  have HPK := Lib.hid hpk
  obtain ⟨hq0, hq1⟩ := hq
  have HDI := Lib.hid (fun w => by_di 46 w (by decide) (by decide))
  have HDQ := Lib.hid (fun w => by_di q w hq0 hq1)
  rw [show bDi 46 = false from rfl] at HDI
  rw [hd] at HDQ
  clear hd hqe hpk
  have hc := ch_bd r t a
  have HCH := Lib.hid (char_any t S a r _ hS0.c0 hS0.c1 hl (by omega))
  obtain ⟨c, hce⟩ : ∃ c, ch r t a = c := ⟨_, rfl⟩
  rw [hce] at hc HCH hm
  obtain ⟨hc0, hc1⟩ := hc
  have HSM := Lib.hid (fun w => by_sm c w hc0 hc1)
  rw [hm] at HSM
  clear hm hce
  obtain ⟨RR, hRR⟩ : ∃ R : Rs, snR r t a l = R := ⟨_, rfl⟩
  rw [hRR] at HA
  rw [hRR]
  clear hRR
  clear hS hL hS0 hM hG hll
  go_enter Tryz.func22, Tryz.ntmps22
  go_upto_region 1 with fail
  go_region
  go_wp2_with (first | (go_at_call 42; (with_reducible refine (HDI.out _).mono ?_); rintro e w' ⟨rfl, rfl⟩) | (go_at_call 42; (with_reducible refine (HDQ.out _).mono ?_); rintro e w' ⟨rfl, rfl⟩) | (go_at_call 38; (with_reducible refine (HPK.out).mono ?_); rintro e w' ⟨rfl, rfl⟩) | (go_at_call 45; (with_reducible refine (HCH.out).mono ?_); rintro e w' ⟨rfl, rfl⟩) | (go_at_call 44; (with_reducible refine (HSM.out _).mono ?_); rintro e w' ⟨rfl, rfl⟩) | (go_at_call 49; (with_reducible refine HBO.out.mono ?_); rintro e w5 ⟨rfl, hb5⟩; (have HBX : Hid (Below w.heap.size w w5) := Lib.hid (HBW.out.trans (hb5.mono (by simp [sz_drew])))); (have HOX := Lib.hid (HOW.out.kept hb5))) | (go_at_call 51; (with_reducible refine (HA.out _ HBX.out).mono ?_)))
  rintro e w1 h1
  have hx1 := h1.1
  have ho1 := Stp.own2 HS.out HL.out HBX.out HOX.out h1
  have g0 : w1.cell? ⟨w.heap.size, 0, none⟩ = some (.int .i64 0) := Own.cell ho1.1 0
  have g1 : w1.cell? ⟨w.heap.size, 1, none⟩ = some (.int .i64 0) := Own.cell ho1.1 1
  have gf := fun i => Own.frozen ho1.1 i
  have gl := ho1.2
  have H1 := Lib.hid h1
  have HO := Lib.hid ho1.1
  subst hx1
  clear h1 ho1
  obtain ⟨p', hp'⟩ : ∃ p, (RR).p = p := ⟨_, rfl⟩
  obtain ⟨c', hc'⟩ : ∃ c, (RR).c = c := ⟨_, rfl⟩
  rw [hp', hc']
  have HPP := Lib.hid hp'
  have HCC := Lib.hid hc'
  clear hp' hc'
  go_wp2_with fail
  have hF := (HO.out.put 0 (.int .i64 p')).put 1 (.int .i64 c')
  refine bodyPost_ret (ret_own rfl hF rfl Tryz.underlying26 rfl (by kernel_rfl)) rfl ?_
  have hd := Stp.done2 HS.out HL.out hB HBX.out HOX.out H1.out rfl
  rw [HPP.out, HCC.out] at hd
  exact hd
theorem step_any (B S a : Nat) (t : ByteArray) (r : Int) (v : Value) (l : List Sy) (w : World) (hS : Sc w S t r (a : Int) v) (hL : Sl w B v l) (hB : B ≤ S) (hl : t.size ≤ 100000) (hll : l.length ≤ 1000000) (ha : a < t.size) (hM : Mx w) (hG : Sg w) (hgb : 0 < w.heap.size) :
    Calls Tryz.prog 22 #[.pointer (some ⟨S, 0, none⟩)] w (Stp B S t w (stR r t a l)) := by
  unfold stR
  by_cases n35 : pk t a = 35
  · rw [if_pos n35]; exact sp_com B S a t r v l w hS hL hB hl hll ha hM hG hgb n35
  rw [if_neg n35]
  by_cases n34 : pk t a = 34
  · rw [if_pos n34]; exact sp_quo B S a t r v l w hS hL hB hl hll ha hM hG hgb n34
  rw [if_neg n34]
  by_cases n36 : pk t a = 36
  · rw [if_pos n36]; exact sp_for B S a t r v l w hS hL hB hl hll ha hM hG hgb n36
  rw [if_neg n36]
  by_cases n46 : pk t a = 46
  · have hd0 : bDi (pk t a) = false := by rw [n46]; rfl
    cases hd : bDi (pk t (a + 1))
    · rw [if_neg (by rw [hd0]; exact fun h => h.elim (fun h => by cases h) (fun h => by cases h.2))]
      have hm : bSm (ch r t a) = false := by rw [(pt_ch n46).1]; rfl
      rw [if_neg (by rw [hm]; decide)]
      obtain ⟨⟨x, z⟩, hb⟩ : ∃ b, bdF r t a = b := ⟨_, rfl⟩
      rw [hb]
      by_cases hx : x = ⟨#[]⟩
      · rw [if_pos hx]; subst hx; exact sp_sgnp B S a t r v l w hS hL hB hl hll ha hM hG hgb n46 hd hm z hb
      · rw [if_neg hx]; exact sp_wrdp B S a t r v l w hS hL hB hl hll ha hM hG hgb n46 hd hm x z hb hx
    · rw [if_pos (Or.inr ⟨n46, rfl⟩)]; exact sp_pnt B S a t r v l w hS hL hB hl hll ha hM hG hgb n46 hd
  · cases hd : bDi (pk t a)
    · rw [if_neg (fun h => h.elim (fun h => by cases h) (fun h => n46 h.1))]
      cases hm : bSm (ch r t a)
      · rw [if_neg (by decide)]
        obtain ⟨⟨x, z⟩, hb⟩ : ∃ b, bdF r t a = b := ⟨_, rfl⟩
        rw [hb]
        by_cases hx : x = ⟨#[]⟩
        · rw [if_pos hx]; subst hx; exact sp_sgnn B S a t r v l w hS hL hB hl hll ha hM hG hgb n35 n34 n36 n46 hd hm z hb
        · rw [if_neg hx]; exact sp_wrdn B S a t r v l w hS hL hB hl hll ha hM hG hgb n35 n34 n36 n46 hd hm x z hb hx
      · rw [if_pos rfl]; exact sp_tag B S a t r v l w hS hL hB hl hll ha hM hG hgb n35 n34 n36 n46 hd hm _ _ rfl rfl
    · rw [if_pos (Or.inl rfl)]; exact sp_dig B S a t r v l w hS hL hB hl hll ha hM hG hgb hd
end Go.Proofs.YtbnldpcbdeeflaaGreatDoor
