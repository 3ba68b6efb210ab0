/- StropBack's walk. Condition: the tables hold what they are laid with. -/
import Derived.Test.YtbnldpcbdeeflaaGreatDoorWe
import Derived.Test.YtbnldpcbdeeflaaGreatDoorWt
import Derived.Test.YtbnldpcbdeeflaaGreatDoorHq
namespace Go.Proofs.YtbnldpcbdeeflaaGreatDoor
open Go.ChangeShapes Go.WideShapes Go.ChangeAt Go.RowKit

theorem text_sl {B : Nat} {v : Value} {l : List Sy} {q : Int} {w : World} {S : ByteArray} (h : Wo w) (hq : 0 ≤ q ∧ q ≤ 2) (hv : Sl w B v l) (hl : l ≠ []) (hn : l.length ≤ 1000) (hzs : ∀ s ∈ l, s.2.1.size ≤ 400) (hlt : ∀ i, i ≤ l.length → (txB q l i).length ≤ 60000) (hR : txR q l 0 = (S, 0)) :
    Calls Tryz.prog 16 #[v, .int .i64 q] w fun e w' => e = .returned (.tuple #[.string S, .int .i64 0]) ∧ Below w.heap.size w w' := by
  rcases Sl.form2 hv with ⟨_, h0⟩ | ⟨g, cap, rfl, hcap, hg, hgc⟩
  · exact absurd h0 hl
  · exact text_gen g cap l q w h hq hn hzs hlt hcap hg hgc (S, 0) hR
set_option maxRecDepth 100000 in
set_option maxHeartbeats 8000000 in
theorem bk_out (t : ByteArray) (r q : Int) (hn : ¬ (t.size ≤ 400 ∧ (syF r t).2.1 = 0)) (w : World) (h : Wo w) : Calls Tryz.prog 5 #[.string t, .int .i64 r, .int .i64 q] w fun e w' => e = .returned (.bool true) ∧ Below w.heap.size w w' := by
  have HA := Lib.hid (awake_any w h)
  obtain ⟨⟨p, c, l⟩, hR⟩ : ∃ R, syF r t = R := ⟨_, rfl⟩
  have HSY1 := Lib.hid (fun (W : World) (hb : Below w.heap.size w W) => (show Calls Tryz.prog 10 #[.string t, .int .i64 r] W (SyP W (p, c, l)) from hR ▸ (h.call hb).sym t r))
  rw [hR] at hn
  have hx : decide ((t.size : Int) > 400) = true ∨ (decide ((t.size : Int) > 400) = false ∧ (c != 0) = true) := by
    by_cases hz : t.size ≤ 400
    · exact Or.inr ⟨decide_eq_false (by omega), by rw [bne_iff_ne]; exact fun e => hn ⟨hz, e⟩⟩
    · exact Or.inl (decide_eq_true (by omega))
  clear h hR hn
  rcases hx with d1 | ⟨d1, d2⟩
  all_goals
    go_enter Tryz.func5, Tryz.ntmps5
    go_wp2_with (first | (go_at_call 9; (with_reducible refine HA.out.mono ?_); (rintro e w1 ⟨rfl, hb1⟩); (have HB1 := Lib.hid hb1); (have hz1 := hb1.size); clear hb1) | (go_at_call 10; (with_reducible refine (HSY1.out _ (by repeat' (first | (with_reducible exact HB3.out) | (with_reducible exact HB2.out) | (with_reducible exact HB1.out) | (with_reducible refine Below.alloc ?_ ?_ _) | (with_reducible refine Below.setCell ?_ ?_ _) | (with_reducible refine Below.drew ?_) | (with_reducible exact Nat.le_refl _) | omega | (simp; done) | (simp; omega)))).mono ?_); (rintro e w2 ⟨v1, rfl, hv1, hb2⟩); (have hz2 := hb2.size); (have HB2 : Hid (Below w.heap.size w w2) := Lib.hid (Below.trans (by repeat' (first | (with_reducible exact HB3.out) | (with_reducible exact HB2.out) | (with_reducible exact HB1.out) | (with_reducible refine Below.alloc ?_ ?_ _) | (with_reducible refine Below.setCell ?_ ?_ _) | (with_reducible refine Below.drew ?_) | (with_reducible exact Nat.le_refl _) | omega | (simp; done) | (simp; omega))) (hb2.mono (by first | omega | (simp; done) | (simp; omega))))); clear hv1 hb2))
    go_returns
    exact ⟨rfl, (by repeat' (first | (with_reducible exact HB3.out) | (with_reducible exact HB2.out) | (with_reducible exact HB1.out) | (with_reducible refine Below.alloc ?_ ?_ _) | (with_reducible refine Below.setCell ?_ ?_ _) | (with_reducible refine Below.drew ?_) | (with_reducible exact Nat.le_refl _) | omega | (simp; done) | (simp; omega)))⟩
set_option maxRecDepth 100000 in
set_option maxHeartbeats 8000000 in
theorem bk_arg (t : ByteArray) (r q : Int) (hz : t.size ≤ 400) (hc : (syF r t).2.1 = 0) (hq : ¬ (0 ≤ q ∧ q ≤ 2)) (w : World) (h : Wo w) : Calls Tryz.prog 5 #[.string t, .int .i64 r, .int .i64 q] w fun e w' => e = .returned (.bool true) ∧ Below w.heap.size w w' := by
  have HA := Lib.hid (awake_any w h)
  obtain ⟨⟨p, c, l⟩, hR⟩ : ∃ R, syF r t = R := ⟨_, rfl⟩
  have HSY1 := Lib.hid (fun (W : World) (hb : Below w.heap.size w W) => (show Calls Tryz.prog 10 #[.string t, .int .i64 r] W (SyP W (p, c, l)) from hR ▸ (h.call hb).sym t r))
  have HTA := Lib.hid (fun (v : Value) (W : World) => text_arg v q W hq)
  rw [hR] at hc
  simp only at hc
  subst hc
  have d1 : decide ((t.size : Int) > 400) = false := decide_eq_false (by omega)
  have hx : decide (q < 0) = true ∨ (decide (q < 0) = false ∧ decide (q > 2) = true) := by
    simp only [decide_eq_true_eq, decide_eq_false_iff_not]
    omega
  clear h hR hq
  rcases hx with d2 | ⟨d2, d3⟩
  all_goals
    go_enter Tryz.func5, Tryz.ntmps5
    go_wp2_with (first | (go_at_call 9; (with_reducible refine HA.out.mono ?_); (rintro e w1 ⟨rfl, hb1⟩); (have HB1 := Lib.hid hb1); (have hz1 := hb1.size); clear hb1) | (go_at_call 10; (with_reducible refine (HSY1.out _ (by repeat' (first | (with_reducible exact HB3.out) | (with_reducible exact HB2.out) | (with_reducible exact HB1.out) | (with_reducible refine Below.alloc ?_ ?_ _) | (with_reducible refine Below.setCell ?_ ?_ _) | (with_reducible refine Below.drew ?_) | (with_reducible exact Nat.le_refl _) | omega | (simp; done) | (simp; omega)))).mono ?_); (rintro e w2 ⟨v1, rfl, hv1, hb2⟩); (have hz2 := hb2.size); (have HB2 : Hid (Below w.heap.size w w2) := Lib.hid (Below.trans (by repeat' (first | (with_reducible exact HB3.out) | (with_reducible exact HB2.out) | (with_reducible exact HB1.out) | (with_reducible refine Below.alloc ?_ ?_ _) | (with_reducible refine Below.setCell ?_ ?_ _) | (with_reducible refine Below.drew ?_) | (with_reducible exact Nat.le_refl _) | omega | (simp; done) | (simp; omega))) (hb2.mono (by first | omega | (simp; done) | (simp; omega))))); clear hv1 hb2) | (go_at_call 16; (with_reducible refine (HTA.out _ _).mono ?_); (rintro e w3 ⟨rfl, hb3⟩); (have hz3 := hb3.size); (try simp only [World.size_alloc] at hz3); (have HB3 : Hid (Below w.heap.size w w3) := Lib.hid (Below.trans (HB2.out.alloc (by omega) _) (hb3.mono (by first | omega | (simp; done) | (simp; omega))))); clear hb3))
    go_returns
    exact ⟨rfl, (by repeat' (first | (with_reducible exact HB3.out) | (with_reducible exact HB2.out) | (with_reducible exact HB1.out) | (with_reducible refine Below.alloc ?_ ?_ _) | (with_reducible refine Below.setCell ?_ ?_ _) | (with_reducible refine Below.drew ?_) | (with_reducible exact Nat.le_refl _) | omega | (simp; done) | (simp; omega)))⟩
set_option maxRecDepth 100000 in
set_option maxHeartbeats 8000000 in
theorem bk_run (t : ByteArray) (r q : Int) (hz : t.size ≤ 400) (hc : (syF r t).2.1 = 0) (hq : 0 ≤ q ∧ q ≤ 2) (w : World) (h : Wo w) : Calls Tryz.prog 5 #[.string t, .int .i64 r, .int .i64 q] w fun e w' => e = .returned (.bool true) ∧ Below w.heap.size w w' := by
  have HA := Lib.hid (awake_any w h)
  have hok := (syF_ok hc).2.2.2
  have hpos := (asc_last hc).2
  obtain ⟨S, b1, b2, b3, b4, _, b6, b7, b8, b9, b10, b11, b12⟩ := back_all hc hz hq
  obtain ⟨l, hl⟩ : ∃ l, (syF r t).2.2 = l := ⟨_, rfl⟩
  obtain ⟨m, hm⟩ : ∃ m, (syF q S).2.2 = m := ⟨_, rfl⟩
  have hR : syF r t = (0, 0, l) := by rw [← hl, hok]
  have hR2 : syF q S = (0, 0, m) := Prod.ext b6 (Prod.ext b2 hm)
  rw [hl] at b1 b3 b7 b9 b11 hpos
  rw [hm] at b3 b4 b8 b10 b12
  have hl0 : l ≠ [] := List.length_pos_iff.1 hpos
  have hm0 : m ≠ [] := List.length_pos_iff.1 (by rw [er_leng b3]; exact hpos)
  have HSY1 := Lib.hid (fun (W : World) (hb : Below w.heap.size w W) => (show Calls Tryz.prog 10 #[.string t, .int .i64 r] W (SyP W (0, 0, l)) from hR ▸ (h.call hb).sym t r))
  have HSY2 := Lib.hid (fun (W : World) (hb : Below w.heap.size w W) => (show Calls Tryz.prog 10 #[.string S, .int .i64 q] W (SyP W (0, 0, m)) from hR2 ▸ (h.call hb).sym S q))
  have HT1 := Lib.hid (fun (W : World) (hb : Below w.heap.size w W) (B : Nat) (v : Value) (hv : Sl W B v l) => text_sl (h.call hb) hq hv hl0 b11 b9 b7 b1)
  have HT2 := Lib.hid (fun (W : World) (hb : Below w.heap.size w W) (B : Nat) (v : Value) (hv : Sl W B v m) => text_sl (h.call hb) hq hv hm0 b12 b10 b8 b4)
  have HE := Lib.hid b3.symm
  have HZL : Hid (l.length ≤ 1000000) := Lib.hid (by omega)
  have d1 : decide ((t.size : Int) > 400) = false := decide_eq_false (by omega)
  have d2 : decide (q < 0) = false := decide_eq_false (by omega)
  have d3 : decide (q > 2) = false := decide_eq_false (by omega)
  clear h hR hR2 hok hl hm hc hpos b1 b2 b3 b4 b6 b7 b8 b9 b10 b11 b12 hq hl0 hm0
  go_enter Tryz.func5, Tryz.ntmps5
  go_upto_region 11 with (first | (go_at_call 9; (with_reducible refine HA.out.mono ?_); (rintro e w1 ⟨rfl, hb1⟩); (have HB1 := Lib.hid hb1); (have hz1 := hb1.size); clear hb1) | (go_at_call 10; (with_reducible refine (HSY1.out _ (by repeat' (first | (with_reducible exact HB3.out) | (with_reducible exact HB2.out) | (with_reducible exact HB1.out) | (with_reducible refine Below.alloc ?_ ?_ _) | (with_reducible refine Below.setCell ?_ ?_ _) | (with_reducible refine Below.drew ?_) | (with_reducible exact Nat.le_refl _) | omega | (simp; done) | (simp; omega)))).mono ?_); (rintro e w2 ⟨v1, rfl, hv1, hb2⟩); (have hz2 := hb2.size); (have HV1 := Lib.hid hv1); (have HB2 : Hid (Below w.heap.size w w2) := Lib.hid (Below.trans (by repeat' (first | (with_reducible exact HB3.out) | (with_reducible exact HB2.out) | (with_reducible exact HB1.out) | (with_reducible refine Below.alloc ?_ ?_ _) | (with_reducible refine Below.setCell ?_ ?_ _) | (with_reducible refine Below.drew ?_) | (with_reducible exact Nat.le_refl _) | omega | (simp; done) | (simp; omega))) (hb2.mono (by first | omega | (simp; done) | (simp; omega))))); clear hv1 hb2) | (go_at_call 16; (with_reducible refine (HT1.out _ (by repeat' (first | (with_reducible exact HB3.out) | (with_reducible exact HB2.out) | (with_reducible exact HB1.out) | (with_reducible refine Below.alloc ?_ ?_ _) | (with_reducible refine Below.setCell ?_ ?_ _) | (with_reducible refine Below.drew ?_) | (with_reducible exact Nat.le_refl _) | omega | (simp; done) | (simp; omega))) _ _ (HV1.out.alloc _)).mono ?_); (rintro e w3 ⟨rfl, hb3⟩); (have hz3 := hb3.size); (try simp only [World.size_alloc] at hz3); (have HL3 : Hid (Below w2.heap.size w2 w3) := Lib.hid (((Below.refl w2.heap.size w2).alloc (Nat.le_refl _) _).trans (hb3.mono (by simp)))); (have HB3 : Hid (Below w.heap.size w w3) := Lib.hid (HB2.out.trans (HL3.out.mono (by omega)))); clear hb3))
  go_wp2_with (first | (go_at_call 10; (with_reducible refine (HSY2.out _ HB3.out).mono ?_); (rintro e w4 ⟨v2, rfl, hv2, hb4⟩); (have hz4 := hb4.size); (have HV2 := Lib.hid hv2); (have HL4 : Hid (Below w3.heap.size w3 w4) := Lib.hid hb4); (have HB4 : Hid (Below w.heap.size w w4) := Lib.hid (HB3.out.trans (hb4.mono (by omega)))); clear hv2 hb4) | (go_at_call 16; (with_reducible refine (HT2.out _ (HB4.out.alloc (by omega) _) _ _ (HV2.out.alloc _)).mono ?_); (rintro e w5 ⟨rfl, hb5⟩); (have hz5 := hb5.size); (try simp only [World.size_alloc] at hz5); (have f0 : w5.cell? ⟨w4.heap.size, 0, none⟩ = some (.int .i64 0) := (hb5.cell (p := ⟨w4.heap.size, 0, none⟩) (by simp)).trans (Own.cell (Own.new w4 26 [.int .i64 0, .int .i64 0]) 0)); (have f1 : w5.cell? ⟨w4.heap.size, 1, none⟩ = some (.int .i64 0) := (hb5.cell (p := ⟨w4.heap.size, 1, none⟩) (by simp)).trans (Own.cell (Own.new w4 26 [.int .i64 0, .int .i64 0]) 1)); (have HL5 : Hid (Below w4.heap.size w4 w5) := Lib.hid (((Below.refl w4.heap.size w4).alloc (Nat.le_refl _) _).trans (hb5.mono (by simp)))); (have HB5 : Hid (Below w.heap.size w w5) := Lib.hid (HB4.out.trans (HL5.out.mono (by omega)))); clear hb5) | (go_at_call 18; (with_reducible refine (alike_any _ _ v1 v2 l m _ HE.out HZL.out (Sl.gbk (Sl.gbk (Sl.gbk HV1.out HL3.out) HL4.out) HL5.out) (Sl.gbk HV2.out HL5.out)).mono ?_); (rintro e w6 ⟨rfl, hb6⟩); (have HB6 : Hid (Below w.heap.size w w6) := Lib.hid (HB5.out.trans (hb6.mono (by omega)))); clear hb6))
  go_returns
  exact ⟨rfl, HB6.out⟩
theorem StropBack_walk (t : ByteArray) (r q : Int) (w : World) (h : Wo w) : Calls Tryz.prog 5 #[.string t, .int .i64 r, .int .i64 q] w fun e w' => e = .returned (.bool true) ∧ Below w.heap.size w w' := by
  by_cases hn : t.size ≤ 400 ∧ (syF r t).2.1 = 0
  · by_cases hq : 0 ≤ q ∧ q ≤ 2
    · exact bk_run t r q hn.1 hn.2 hq w h
    · exact bk_arg t r q hn.1 hn.2 hq w h
  · exact bk_out t r q hn w h
end Go.Proofs.YtbnldpcbdeeflaaGreatDoor
