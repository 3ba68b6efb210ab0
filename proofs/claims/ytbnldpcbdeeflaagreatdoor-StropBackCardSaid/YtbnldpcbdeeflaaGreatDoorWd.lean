/- The scanner's step over a bold word. Condition: the scanner's block and its list lie in blocks of the call's own. -/
import Derived.Test.YtbnldpcbdeeflaaGreatDoorRr
namespace Go.Proofs.YtbnldpcbdeeflaaGreatDoor
open Go.ChangeShapes Go.WideShapes Go.ChangeAt Go.RowKit

/-- What a bold word leaves. -/
def wdR (r : Int) (t x : ByteArray) (a : Int) (z : Nat) (l : List Sy) : Rs :=
  if x = ⟨#[67, 79]⟩ ∨ x = ⟨#[67, 79, 77, 77, 69, 78, 84]⟩ then rmR r t x a z false l
  else if x = ⟨#[80, 82]⟩ ∨ x = ⟨#[80, 82, 65, 71, 77, 65, 84]⟩ then rmR r t x a z true l
  else shR r a z 1 x l
/-- The step's own block of the result, after a call that leaves R. -/
theorem Stp.own {B S : Nat} {t : ByteArray} {r a : Int} {v : Value} {l : List Sy} {w w1 : World} {R : Rs} {x : Ending} (hS : Sc w S t r a v) (hL : Sl w B v l) (h : Stp B S t (w.alloc (.cells #[.int .i64 0, .int .i64 0] 26)) R x w1) : Own w1 w.heap.size 26 [.int .i64 0, .int .i64 0] ∧ w.heap.size < w1.heap.size := by
  have hlt := hS.lt
  have ho := h.2.2.2 v (Sc.c3 (Own.alloc hS _))
  have hR := (Own.new w 26 [.int .i64 0, .int .i64 0]).ot ho (by omega) (fun e => absurd (World.ownsRow.lt hL _ e).2 (Nat.lt_irrefl _))
  exact ⟨hR, hR.lt⟩
/-- The end of such a step. -/
theorem Stp.done {B S : Nat} {t : ByteArray} {r a : Int} {v : Value} {l : List Sy} {w w1 : World} {R : Rs} {x : Ending} (hS : Sc w S t r a v) (hL : Sl w B v l) (hB : B ≤ S) (h : Stp B S t (w.alloc (.cells #[.int .i64 0, .int .i64 0] 26)) R x w1) {y : Ending} (hy : y = .returned (.agg #[.int .i64 R.p, .int .i64 R.c])) : Stp B S t w R y ((w1.setCell ⟨w.heap.size, 0, none⟩ (.int .i64 R.p)).setCell ⟨w.heap.size, 1, none⟩ (.int .i64 R.c)) := by
  have hlt := hS.lt
  have hR := (Stp.own hS hL h).1
  obtain ⟨_, ⟨v1, hS1, hL1⟩, hb, hk⟩ := h
  have hne2 : S ≠ w.heap.size := by omega
  have n2 := Sl.ne hL1 hR (by decide)
  refine ⟨hy, ⟨v1, (Own.far hS1 hne2 _).far hne2 _, (hL1.far n2 _).far n2 _⟩, ((((Below.refl B w).alloc (by omega) _).trans hb).setCell (p := ⟨w.heap.size, 0, none⟩) (by show B ≤ w.heap.size; omega) _).setCell (p := ⟨w.heap.size, 1, none⟩) (by show B ≤ w.heap.size; omega) _, ?_⟩
  exact Kp.add hS ((Below.refl w.heap.size w).alloc (Nat.le_refl _) _) (hk v (Sc.c3 (Own.alloc hS _))) _ _
set_option maxHeartbeats 2000000 in
theorem word_0 (B S a z : Nat) (t : ByteArray) (r : Int) (v : Value) (l : List Sy) (w : World) (hS : Sc w S t r (a : Int) v) (hL : Sl w B v l) (hB : B ≤ S) (hl : t.size ≤ 100000) (hz1 : 1 ≤ z) (hz2 : z ≤ t.size) :
    Calls Tryz.prog 50 #[.pointer (some ⟨S, 0, none⟩), .string ⟨#[67, 79]⟩, .int .i64 (z : Int)] w (Stp B S t w (rmR r t ⟨#[67, 79]⟩ (a : Int) z false l)) := by
  have hlt := hS.lt
  have HA := Lib.hid (remark_any B S a z t ⟨#[67, 79]⟩ false r v l (w.alloc (.cells #[.int .i64 0, .int .i64 0] 26)) (Own.alloc hS _) (hL.alloc _) hB hl hz1 hz2)
  have HS := Lib.hid hS
  have HL := Lib.hid hL
  clear hS hL hl hz2
  go_enter Tryz.func50, Tryz.ntmps50
  go_wp2_with (go_at_call 91; (with_reducible refine HA.out.mono ?_))
  rintro e w1 h1
  have hx1 := h1.1
  have ho1 := Stp.own HS.out HL.out h1
  have g0 : w1.cell? ⟨w.heap.size, 0, none⟩ = some (.int .i64 0) := Own.cell ho1.1 0
  have g1 : w1.cell? ⟨w.heap.size, 1, none⟩ = some (.int .i64 0) := Own.cell ho1.1 1
  have gf := fun i => Own.frozen ho1.1 i
  have gl := ho1.2
  have H1 := Lib.hid h1
  have HO := Lib.hid ho1.1
  subst hx1
  clear h1 ho1
  obtain ⟨p, hp⟩ : ∃ p, (rmR r t ⟨#[67, 79]⟩ (a : Int) z false l).p = p := ⟨_, rfl⟩
  obtain ⟨c, hc⟩ : ∃ c, (rmR r t ⟨#[67, 79]⟩ (a : Int) z false l).c = c := ⟨_, rfl⟩
  rw [hp, hc]
  have HPP := Lib.hid hp
  have HCC := Lib.hid hc
  clear hp hc
  go_wp2_with fail
  have hF := (HO.out.put 0 (.int .i64 p)).put 1 (.int .i64 c)
  refine bodyPost_ret (ret_own rfl hF rfl Tryz.underlying26 rfl (by kernel_rfl)) rfl ?_
  have hd := Stp.done HS.out HL.out hB H1.out rfl
  rw [HPP.out, HCC.out] at hd
  exact hd
set_option maxHeartbeats 2000000 in
theorem word_1 (B S a z : Nat) (t : ByteArray) (r : Int) (v : Value) (l : List Sy) (w : World) (hS : Sc w S t r (a : Int) v) (hL : Sl w B v l) (hB : B ≤ S) (hl : t.size ≤ 100000) (hz1 : 1 ≤ z) (hz2 : z ≤ t.size) :
    Calls Tryz.prog 50 #[.pointer (some ⟨S, 0, none⟩), .string ⟨#[67, 79, 77, 77, 69, 78, 84]⟩, .int .i64 (z : Int)] w (Stp B S t w (rmR r t ⟨#[67, 79, 77, 77, 69, 78, 84]⟩ (a : Int) z false l)) := by
  have hlt := hS.lt
  have HA := Lib.hid (remark_any B S a z t ⟨#[67, 79, 77, 77, 69, 78, 84]⟩ false r v l (w.alloc (.cells #[.int .i64 0, .int .i64 0] 26)) (Own.alloc hS _) (hL.alloc _) hB hl hz1 hz2)
  have HS := Lib.hid hS
  have HL := Lib.hid hL
  clear hS hL hl hz2
  go_enter Tryz.func50, Tryz.ntmps50
  go_wp2_with (go_at_call 91; (with_reducible refine HA.out.mono ?_))
  rintro e w1 h1
  have hx1 := h1.1
  have ho1 := Stp.own HS.out HL.out h1
  have g0 : w1.cell? ⟨w.heap.size, 0, none⟩ = some (.int .i64 0) := Own.cell ho1.1 0
  have g1 : w1.cell? ⟨w.heap.size, 1, none⟩ = some (.int .i64 0) := Own.cell ho1.1 1
  have gf := fun i => Own.frozen ho1.1 i
  have gl := ho1.2
  have H1 := Lib.hid h1
  have HO := Lib.hid ho1.1
  subst hx1
  clear h1 ho1
  obtain ⟨p, hp⟩ : ∃ p, (rmR r t ⟨#[67, 79, 77, 77, 69, 78, 84]⟩ (a : Int) z false l).p = p := ⟨_, rfl⟩
  obtain ⟨c, hc⟩ : ∃ c, (rmR r t ⟨#[67, 79, 77, 77, 69, 78, 84]⟩ (a : Int) z false l).c = c := ⟨_, rfl⟩
  rw [hp, hc]
  have HPP := Lib.hid hp
  have HCC := Lib.hid hc
  clear hp hc
  go_wp2_with fail
  have hF := (HO.out.put 0 (.int .i64 p)).put 1 (.int .i64 c)
  refine bodyPost_ret (ret_own rfl hF rfl Tryz.underlying26 rfl (by kernel_rfl)) rfl ?_
  have hd := Stp.done HS.out HL.out hB H1.out rfl
  rw [HPP.out, HCC.out] at hd
  exact hd
set_option maxHeartbeats 2000000 in
theorem word_2 (B S a z : Nat) (t : ByteArray) (r : Int) (v : Value) (l : List Sy) (w : World) (hS : Sc w S t r (a : Int) v) (hL : Sl w B v l) (hB : B ≤ S) (hl : t.size ≤ 100000) (hz1 : 1 ≤ z) (hz2 : z ≤ t.size) :
    Calls Tryz.prog 50 #[.pointer (some ⟨S, 0, none⟩), .string ⟨#[80, 82]⟩, .int .i64 (z : Int)] w (Stp B S t w (rmR r t ⟨#[80, 82]⟩ (a : Int) z true l)) := by
  have hlt := hS.lt
  have HA := Lib.hid (remark_any B S a z t ⟨#[80, 82]⟩ true r v l (w.alloc (.cells #[.int .i64 0, .int .i64 0] 26)) (Own.alloc hS _) (hL.alloc _) hB hl hz1 hz2)
  have HS := Lib.hid hS
  have HL := Lib.hid hL
  clear hS hL hl hz2
  go_enter Tryz.func50, Tryz.ntmps50
  go_wp2_with (go_at_call 91; (with_reducible refine HA.out.mono ?_))
  rintro e w1 h1
  have hx1 := h1.1
  have ho1 := Stp.own HS.out HL.out h1
  have g0 : w1.cell? ⟨w.heap.size, 0, none⟩ = some (.int .i64 0) := Own.cell ho1.1 0
  have g1 : w1.cell? ⟨w.heap.size, 1, none⟩ = some (.int .i64 0) := Own.cell ho1.1 1
  have gf := fun i => Own.frozen ho1.1 i
  have gl := ho1.2
  have H1 := Lib.hid h1
  have HO := Lib.hid ho1.1
  subst hx1
  clear h1 ho1
  obtain ⟨p, hp⟩ : ∃ p, (rmR r t ⟨#[80, 82]⟩ (a : Int) z true l).p = p := ⟨_, rfl⟩
  obtain ⟨c, hc⟩ : ∃ c, (rmR r t ⟨#[80, 82]⟩ (a : Int) z true l).c = c := ⟨_, rfl⟩
  rw [hp, hc]
  have HPP := Lib.hid hp
  have HCC := Lib.hid hc
  clear hp hc
  go_wp2_with fail
  have hF := (HO.out.put 0 (.int .i64 p)).put 1 (.int .i64 c)
  refine bodyPost_ret (ret_own rfl hF rfl Tryz.underlying26 rfl (by kernel_rfl)) rfl ?_
  have hd := Stp.done HS.out HL.out hB H1.out rfl
  rw [HPP.out, HCC.out] at hd
  exact hd
set_option maxHeartbeats 2000000 in
theorem word_3 (B S a z : Nat) (t : ByteArray) (r : Int) (v : Value) (l : List Sy) (w : World) (hS : Sc w S t r (a : Int) v) (hL : Sl w B v l) (hB : B ≤ S) (hl : t.size ≤ 100000) (hz1 : 1 ≤ z) (hz2 : z ≤ t.size) :
    Calls Tryz.prog 50 #[.pointer (some ⟨S, 0, none⟩), .string ⟨#[80, 82, 65, 71, 77, 65, 84]⟩, .int .i64 (z : Int)] w (Stp B S t w (rmR r t ⟨#[80, 82, 65, 71, 77, 65, 84]⟩ (a : Int) z true l)) := by
  have hlt := hS.lt
  have HA := Lib.hid (remark_any B S a z t ⟨#[80, 82, 65, 71, 77, 65, 84]⟩ true r v l (w.alloc (.cells #[.int .i64 0, .int .i64 0] 26)) (Own.alloc hS _) (hL.alloc _) hB hl hz1 hz2)
  have HS := Lib.hid hS
  have HL := Lib.hid hL
  clear hS hL hl hz2
  go_enter Tryz.func50, Tryz.ntmps50
  go_wp2_with (go_at_call 91; (with_reducible refine HA.out.mono ?_))
  rintro e w1 h1
  have hx1 := h1.1
  have ho1 := Stp.own HS.out HL.out h1
  have g0 : w1.cell? ⟨w.heap.size, 0, none⟩ = some (.int .i64 0) := Own.cell ho1.1 0
  have g1 : w1.cell? ⟨w.heap.size, 1, none⟩ = some (.int .i64 0) := Own.cell ho1.1 1
  have gf := fun i => Own.frozen ho1.1 i
  have gl := ho1.2
  have H1 := Lib.hid h1
  have HO := Lib.hid ho1.1
  subst hx1
  clear h1 ho1
  obtain ⟨p, hp⟩ : ∃ p, (rmR r t ⟨#[80, 82, 65, 71, 77, 65, 84]⟩ (a : Int) z true l).p = p := ⟨_, rfl⟩
  obtain ⟨c, hc⟩ : ∃ c, (rmR r t ⟨#[80, 82, 65, 71, 77, 65, 84]⟩ (a : Int) z true l).c = c := ⟨_, rfl⟩
  rw [hp, hc]
  have HPP := Lib.hid hp
  have HCC := Lib.hid hc
  clear hp hc
  go_wp2_with fail
  have hF := (HO.out.put 0 (.int .i64 p)).put 1 (.int .i64 c)
  refine bodyPost_ret (ret_own rfl hF rfl Tryz.underlying26 rfl (by kernel_rfl)) rfl ?_
  have hd := Stp.done HS.out HL.out hB H1.out rfl
  rw [HPP.out, HCC.out] at hd
  exact hd
theorem toL_ne {x : ByteArray} {c : List UInt8} (h : x ≠ ⟨c.toArray⟩) : (x.toList == c) = false := by
  rw [beq_eq_false_iff_ne, ByteArray.toList_eq]
  exact fun e => h (bytes_inj (b := ⟨c.toArray⟩) e)
set_option maxHeartbeats 2000000 in
theorem word_n (B S a z : Nat) (t x : ByteArray) (r : Int) (v : Value) (l : List Sy) (w : World) (hS : Sc w S t r (a : Int) v) (hL : Sl w B v l) (hB : B ≤ S) (hll : l.length ≤ 1000000) (hx : x.size ≤ 200000) (x0 : x ≠ ⟨#[67, 79]⟩) (x1 : x ≠ ⟨#[67, 79, 77, 77, 69, 78, 84]⟩) (x2 : x ≠ ⟨#[80, 82]⟩) (x3 : x ≠ ⟨#[80, 82, 65, 71, 77, 65, 84]⟩) :
    Calls Tryz.prog 50 #[.pointer (some ⟨S, 0, none⟩), .string x, .int .i64 (z : Int)] w (Stp B S t w (shR r (a : Int) (z : Int) 1 x l)) := by
  have hlt := hS.lt
  have HA := Lib.hid (short_any B S t r a 1 z x v l (w.alloc (.cells #[.int .i64 0, .int .i64 0] 26)) (Own.alloc hS _) (hL.alloc _) hB hll hx)
  have HS := Lib.hid hS
  have HL := Lib.hid hL
  have y0 := toL_ne (c := [67, 79]) x0
  have y1 := toL_ne (c := [67, 79, 77, 77, 69, 78, 84]) x1
  have y2 := toL_ne (c := [80, 82]) x2
  have y3 := toL_ne (c := [80, 82, 65, 71, 77, 65, 84]) x3
  clear hS hL hll x0 x1 x2 x3
  go_enter Tryz.func50, Tryz.ntmps50
  go_wp2_with (go_at_call 48; (with_reducible refine HA.out.mono ?_))
  rintro e w1 h1
  have hx1 := h1.1
  have ho1 := Stp.own HS.out HL.out h1
  have g0 : w1.cell? ⟨w.heap.size, 0, none⟩ = some (.int .i64 0) := Own.cell ho1.1 0
  have g1 : w1.cell? ⟨w.heap.size, 1, none⟩ = some (.int .i64 0) := Own.cell ho1.1 1
  have gf := fun i => Own.frozen ho1.1 i
  have gl := ho1.2
  have H1 := Lib.hid h1
  have HO := Lib.hid ho1.1
  subst hx1
  clear h1 ho1
  obtain ⟨p, hp⟩ : ∃ p, (shR r (a : Int) (z : Int) 1 x l).p = p := ⟨_, rfl⟩
  obtain ⟨c, hc⟩ : ∃ c, (shR r (a : Int) (z : Int) 1 x l).c = c := ⟨_, rfl⟩
  rw [hp, hc]
  have HPP := Lib.hid hp
  have HCC := Lib.hid hc
  clear hp hc
  go_wp2_with fail
  have hF := (HO.out.put 0 (.int .i64 p)).put 1 (.int .i64 c)
  refine bodyPost_ret (ret_own rfl hF rfl Tryz.underlying26 rfl (by kernel_rfl)) rfl ?_
  have hd := Stp.done HS.out HL.out hB H1.out rfl
  rw [HPP.out, HCC.out] at hd
  exact hd
theorem word_any (B S a z : Nat) (t x : ByteArray) (r : Int) (v : Value) (l : List Sy) (w : World) (hS : Sc w S t r (a : Int) v) (hL : Sl w B v l) (hB : B ≤ S) (hl : t.size ≤ 100000) (hll : l.length ≤ 1000000) (hx : x.size ≤ 200000) (hz1 : 1 ≤ z) (hz2 : z ≤ t.size) :
    Calls Tryz.prog 50 #[.pointer (some ⟨S, 0, none⟩), .string x, .int .i64 (z : Int)] w (Stp B S t w (wdR r t x a z l)) := by
  unfold wdR
  by_cases h0 : x = ⟨#[67, 79]⟩
  · rw [if_pos (Or.inl h0)]; subst h0; exact word_0 B S a z t r v l w hS hL hB hl hz1 hz2
  · by_cases h1 : x = ⟨#[67, 79, 77, 77, 69, 78, 84]⟩
    · rw [if_pos (Or.inr h1)]; subst h1; exact word_1 B S a z t r v l w hS hL hB hl hz1 hz2
    · rw [if_neg (fun h => h.elim h0 h1)]
      by_cases h2 : x = ⟨#[80, 82]⟩
      · rw [if_pos (Or.inl h2)]; subst h2; exact word_2 B S a z t r v l w hS hL hB hl hz1 hz2
      · by_cases h3 : x = ⟨#[80, 82, 65, 71, 77, 65, 84]⟩
        · rw [if_pos (Or.inr h3)]; subst h3; exact word_3 B S a z t r v l w hS hL hB hl hz1 hz2
        · rw [if_neg (fun h => h.elim h2 h3)]
          exact word_n B S a z t x r v l w hS hL hB hll hx h0 h1 h2 h3
end Go.Proofs.YtbnldpcbdeeflaaGreatDoor
