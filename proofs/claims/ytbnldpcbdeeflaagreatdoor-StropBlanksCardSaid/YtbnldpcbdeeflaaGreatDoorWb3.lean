/- StropBlanks at its last remark, and at any arguments. Condition: the tables hold what they are laid with. -/
import Derived.Test.YtbnldpcbdeeflaaGreatDoorWb1
import Derived.Test.YtbnldpcbdeeflaaGreatDoorWb2
namespace Go.Proofs.YtbnldpcbdeeflaaGreatDoor
open Go.ChangeShapes Go.WideShapes Go.ChangeAt Go.RowKit

set_option maxRecDepth 100000 in
set_option maxHeartbeats 8000000 in
theorem bl_3 (t : ByteArray) (r : Int) (k : Nat) (hj : k % 4 = 3) (hk : k ≤ 255) (hz : t.size ≤ 300) (hc : (syF r t).2.1 = 0) (w : World) (h : Wo w) : Calls Tryz.prog 7 #[.string t, .int .i64 r, .int .u8 (k : Int)] w fun e w' => e = .returned (.bool true) ∧ Below w.heap.size w w' := by
  have HA := Lib.hid (awake_any w h)
  have hok := (syF_ok hc).2.2.2
  have hln := syF_bound r t
  obtain ⟨l, hl⟩ : ∃ l, (syF r t).2.2 = l := ⟨_, rfl⟩
  have hl0 : l ≠ [] := by rw [← hl, hok]; simp
  have hpos : 0 < l.length := List.length_pos_iff.2 hl0
  obtain ⟨i, hik⟩ : ∃ i, k % l.length = i := ⟨_, rfl⟩
  have hi : i < l.length := by rw [← hik]; exact Nat.mod_lt _ hpos
  have hi' : i < (syF r t).2.2.length := by rw [hl]; exact hi
  obtain ⟨_, b, hbz, hbe, _, _⟩ := sy_place hc i hi'
  obtain ⟨n1, n2⟩ := ins_any (rem := ⟨#[35, 34, 35]⟩) hc (by rw [show (ByteArray.size ⟨#[35, 34, 35]⟩) = 3 from rfl]; omega) rmk_3 i b hi' hbe
  obtain ⟨s, hs⟩ : ∃ s, l[i]? = some s := ⟨l[i], List.getElem?_eq_getElem hi⟩
  rw [hl, hs] at hbe
  obtain ⟨kk, xx, bb⟩ := s
  have hbb : bb = (b : Int) := Option.some.inj hbe
  subst hbb
  obtain ⟨s1, s2, s3⟩ := sy_at l i _ hs
  simp only at s1 s2 s3
  have hR : syF r t = (0, 0, l) := by rw [← hl, hok]
  obtain ⟨⟨p2, c2, l2⟩, hR2⟩ : ∃ R, syF r (ins t ⟨#[35, 34, 35]⟩ b) = R := ⟨_, rfl⟩
  rw [hR2] at n1 n2
  simp only at n1 n2
  subst n1
  rw [hl] at n2 hln
  have hS1 := Lib.hid s1
  have hS2 := Lib.hid s2
  have hS3 := Lib.hid s3
  have HL0 := Lib.hid hl0
  have HSY1 := Lib.hid (fun (W : World) (hb : Below w.heap.size w W) => (show Calls Tryz.prog 10 #[.string t, .int .i64 r] W (SyP W (0, 0, l)) from hR ▸ (h.call hb).sym t r))
  have HSY2 := Lib.hid (fun (W : World) (hb : Below w.heap.size w W) (T : ByteArray) (hT : T = ins t ⟨#[35, 34, 35]⟩ b) => (show Calls Tryz.prog 10 #[.string T, .int .i64 r] W (SyP W (p2, 0, l2)) from by rw [hT]; exact hR2 ▸ (h.call hb).sym _ r))
  have d1 : decide ((t.size : Int) > 300) = false := decide_eq_false (by omega)
  have HE := Lib.hid n2.symm
  have HZL : Hid (l.length ≤ 1000000) := Lib.hid (by omega)
  have t1 : (k : Int).tmod (l.length : Int) = (i : Int) := by rw [← Int.ofNat_tmod, hik]
  have t2 : (k : Int).tmod 4 = 3 := (Int.ofNat_tmod k 4).symm.trans (by rw [hj]; rfl)
  have z0 : (l.length : Int) ≠ 0 := by omega
  have w1' : IntKind.i64.wrap (k : Int) = (k : Int) := IntWalk.i64_in _ (by omega)
  have y1 : (b : Int) ≤ (t.size : Int) := by omega
  have y2 : (t.extract 0 b).size ≤ 300 := by rw [ByteArray.size_extract]; omega
  have y3 : (t.extract b t.size).size ≤ 300 := by rw [ByteArray.size_extract]; omega
  have y4 : (t.extract 0 b ++ ⟨#[35, 34, 35]⟩).size ≤ 400 := by rw [ByteArray.size_append]; have : (ByteArray.size ⟨#[35, 34, 35]⟩) = 3 := rfl; omega
  clear h hR hR2 hok hl hc s1 s2 s3 hs hbe hi' hik hl0 n2 hj
  go_enter Tryz.func7, Tryz.ntmps7
  go_upto_region 8 with (first | (go_at_call 9; (with_reducible refine HA.out.mono ?_); (rintro e w1 ⟨rfl, hb1⟩); (have HB1 := Lib.hid hb1); (have hz1 := hb1.size); clear hb1) | (go_at_call 10; (with_reducible refine (HSY1.out _ (by repeat' (first | (with_reducible exact HB3.out) | (with_reducible exact (HB2.out.trans (HBB.out.mono (by omega)))) | (with_reducible exact HB2.out) | (with_reducible exact HB1.out) | (with_reducible refine Below.alloc ?_ ?_ _) | (with_reducible refine Below.setCell ?_ ?_ _) | (with_reducible refine Below.drew ?_) | (with_reducible exact Nat.le_refl _) | omega | (simp; done) | (simp; omega)))).mono ?_); (rintro e w2 ⟨v1, rfl, hv1, hb2⟩); (obtain ⟨g, cap, rfl, hcap, hg, hq⟩ := sl_ne hv1 HL0.out); (have HV1 := Lib.hid hv1); (have hz2 := hb2.size); (have HB2 : Hid (Below w.heap.size w w2) := Lib.hid (Below.trans (by repeat' (first | (with_reducible exact HB3.out) | (with_reducible exact (HB2.out.trans (HBB.out.mono (by omega)))) | (with_reducible exact HB2.out) | (with_reducible exact HB1.out) | (with_reducible refine Below.alloc ?_ ?_ _) | (with_reducible refine Below.setCell ?_ ?_ _) | (with_reducible refine Below.drew ?_) | (with_reducible exact Nat.le_refl _) | omega | (simp; done) | (simp; omega))) (hb2.mono (by first | omega | (simp; omega))))); (have e0 := fun o => (World.cell_alloc_old w2 o hg (i * 3)).trans (hq _ _ hS1.out)); (have e1 := fun o => (World.cell_alloc_old w2 o hg (i * 3 + 1)).trans (hq _ _ hS2.out)); (have e2 := fun o => (World.cell_alloc_old w2 o hg (i * 3 + 2)).trans (hq _ _ hS3.out)); clear hv1 hb2 hq))
  have hbb : Below w2.heap.size w2 (((w2.alloc (.cells #[.int .i64 0, .int .i64 0] 26)).alloc (.cells #[.int .i64 kk, .string xx, .int .i64 (b : Int)] 31)).alloc (.cells #[.string ⟨#[32]⟩, .string ⟨#[10, 9]⟩, .string ⟨#[35, 32, 105, 116, 39, 115, 32, 97, 32, 36, 32, 99, 111, 109, 109, 101, 110, 116, 32, 35]⟩, .string ⟨#[35, 34, 35]⟩] 9)) := (by repeat' (first | (with_reducible exact Below.refl _ _) | (with_reducible refine Below.alloc ?_ ?_ _) | (with_reducible refine Below.setCell ?_ ?_ _) | (with_reducible refine Below.drew ?_) | (with_reducible exact Nat.le_refl _) | omega | (simp; done) | (simp; omega)))
  have d2 : (((w2.alloc (.cells #[.int .i64 0, .int .i64 0] 26)).alloc (.cells #[.int .i64 kk, .string xx, .int .i64 (b : Int)] 31)).alloc (.cells #[.string ⟨#[32]⟩, .string ⟨#[10, 9]⟩, .string ⟨#[35, 32, 105, 116, 39, 115, 32, 97, 32, 36, 32, 99, 111, 109, 109, 101, 110, 116, 32, 35]⟩, .string ⟨#[35, 34, 35]⟩] 9)).cell? ⟨w2.heap.size + 1, 2, none⟩ = some (.int .i64 (b : Int)) := by
    have q := Own.cell (Own.alloc (Own.new (w2.alloc (.cells #[.int .i64 0, .int .i64 0] 26)) 31 [.int .i64 kk, .string xx, .int .i64 (b : Int)]) (.cells #[.string ⟨#[32]⟩, .string ⟨#[10, 9]⟩, .string ⟨#[35, 32, 105, 116, 39, 115, 32, 97, 32, 36, 32, 99, 111, 109, 109, 101, 110, 116, 32, 35]⟩, .string ⟨#[35, 34, 35]⟩] 9)) 2
    simp only [World.size_alloc] at q
    exact q
  have hWz : w2.heap.size + 3 ≤ (((w2.alloc (.cells #[.int .i64 0, .int .i64 0] 26)).alloc (.cells #[.int .i64 kk, .string xx, .int .i64 (b : Int)] 31)).alloc (.cells #[.string ⟨#[32]⟩, .string ⟨#[10, 9]⟩, .string ⟨#[35, 32, 105, 116, 39, 115, 32, 97, 32, 36, 32, 99, 111, 109, 109, 101, 110, 116, 32, 35]⟩, .string ⟨#[35, 34, 35]⟩] 9)).heap.size := by simp
  have HBB := Lib.hid hbb
  clear hbb
  generalize (((w2.alloc (.cells #[.int .i64 0, .int .i64 0] 26)).alloc (.cells #[.int .i64 kk, .string xx, .int .i64 (b : Int)] 31)).alloc (.cells #[.string ⟨#[32]⟩, .string ⟨#[10, 9]⟩, .string ⟨#[35, 32, 105, 116, 39, 115, 32, 97, 32, 36, 32, 99, 111, 109, 109, 101, 110, 116, 32, 35]⟩, .string ⟨#[35, 34, 35]⟩] 9)) = W at *
  have d2o : ∀ o, (W.alloc o).cell? ⟨w2.heap.size + 1, 2, none⟩ = some (.int .i64 (b : Int)) := fun o => (World.cell_alloc_old W o (by omega) 2).trans d2
  go_region_with (go_at_call 10; (with_reducible refine (HSY2.out _ (by repeat' (first | (with_reducible exact HB3.out) | (with_reducible exact (HB2.out.trans (HBB.out.mono (by omega)))) | (with_reducible exact HB2.out) | (with_reducible exact HB1.out) | (with_reducible refine Below.alloc ?_ ?_ _) | (with_reducible refine Below.setCell ?_ ?_ _) | (with_reducible refine Below.drew ?_) | (with_reducible exact Nat.le_refl _) | omega | (simp; done) | (simp; omega))) _ ?_).mono ?_); (focus rfl); (rintro e w3 ⟨v2, rfl, hv2, hb3⟩); (have hz3 := hb3.size); (try simp only [World.size_alloc, sz_drew] at hz3); (have HV2 := Lib.hid hv2); (try ((have hO := Own.kept (Own.drew (Own.new W 26 [.int .i64 0, .int .i64 0])) hb3); (have p0 := Own.cell hO 0); (have p1 := Own.cell hO 1); (have pf := fun i => Own.frozen hO i); (have pl := Own.lt hO); (have HO := Lib.hid hO); clear hO)); (have HB23 : Hid (Below w2.heap.size w2 w3) := Lib.hid (Below.trans (show Below w2.heap.size w2 _ from (by repeat' (first | (with_reducible exact HBB.out) | (with_reducible refine Below.alloc ?_ ?_ _) | (with_reducible refine Below.setCell ?_ ?_ _) | (with_reducible refine Below.drew ?_) | (with_reducible exact Nat.le_refl _) | omega | (simp; done) | (simp; omega)))) (hb3.mono (by first | omega | (simp; omega))))); (have HB3 : Hid (Below w.heap.size w w3) := Lib.hid (HB2.out.trans (HB23.out.mono (by omega)))); clear hv2 hb3)
  all_goals
    go_wp2_with (first | (go_at_call 18; (with_reducible refine (alike_any _ _ _ v2 l l2 _ HE.out HZL.out ((Sl.gbk HV1.out HB23.out).alloc _) (HV2.out.alloc _)).mono ?_); (rintro e w4 ⟨rfl, hb4⟩); (have HB4 : Hid (Below w.heap.size w w4) := Lib.hid (Below.trans (by repeat' (first | (with_reducible exact HB3.out) | (with_reducible exact (HB2.out.trans (HBB.out.mono (by omega)))) | (with_reducible exact HB2.out) | (with_reducible exact HB1.out) | (with_reducible refine Below.alloc ?_ ?_ _) | (with_reducible refine Below.setCell ?_ ?_ _) | (with_reducible refine Below.drew ?_) | (with_reducible exact Nat.le_refl _) | omega | (simp; done) | (simp; omega))) (hb4.mono (by first | omega | (simp; omega))))); clear hb4) | (go_at_call 18; (have n1 := Sl.ne (Sl.gbk HV1.out HB23.out) HO.out (by decide)); (have n2 := Sl.ne HV2.out HO.out (by decide)); (with_reducible refine (alike_any _ _ _ v2 l l2 _ HE.out HZL.out (((Sl.gbk HV1.out HB23.out).far n1 _).far n1 _) ((HV2.out.far n2 _).far n2 _)).mono ?_); (rintro e w4 ⟨rfl, hb4⟩); (have HB4 : Hid (Below w.heap.size w w4) := Lib.hid (Below.trans (by repeat' (first | (with_reducible exact HB3.out) | (with_reducible exact (HB2.out.trans (HBB.out.mono (by omega)))) | (with_reducible exact HB2.out) | (with_reducible exact HB1.out) | (with_reducible refine Below.alloc ?_ ?_ _) | (with_reducible refine Below.setCell ?_ ?_ _) | (with_reducible refine Below.drew ?_) | (with_reducible exact Nat.le_refl _) | omega | (simp; done) | (simp; omega))) (hb4.mono (by first | omega | (simp; omega))))); clear hb4))
    go_returns
    exact ⟨rfl, HB4.out⟩
set_option maxRecDepth 100000 in
set_option maxHeartbeats 8000000 in
theorem bl_out (t : ByteArray) (r : Int) (k : Nat) (hn : ¬ (t.size ≤ 300 ∧ (syF r t).2.1 = 0)) (w : World) (h : Wo w) : Calls Tryz.prog 7 #[.string t, .int .i64 r, .int .u8 (k : Int)] w fun e w' => e = .returned (.bool true) ∧ Below w.heap.size w w' := by
  have HA := Lib.hid (awake_any w h)
  obtain ⟨⟨p, c, l⟩, hR⟩ : ∃ R, syF r t = R := ⟨_, rfl⟩
  have HSY1 := Lib.hid (fun (W : World) (hb : Below w.heap.size w W) => (show Calls Tryz.prog 10 #[.string t, .int .i64 r] W (SyP W (p, c, l)) from hR ▸ (h.call hb).sym t r))
  rw [hR] at hn
  have hx : decide ((t.size : Int) > 300) = true ∨ (decide ((t.size : Int) > 300) = false ∧ (c != 0) = true) := by
    by_cases hz : t.size ≤ 300
    · exact Or.inr ⟨decide_eq_false (by omega), by rw [bne_iff_ne]; exact fun e => hn ⟨hz, e⟩⟩
    · exact Or.inl (decide_eq_true (by omega))
  clear h hR hn
  rcases hx with d1 | ⟨d1, d2⟩
  all_goals
    go_enter Tryz.func7, Tryz.ntmps7
    go_wp2_with (first | (go_at_call 9; (with_reducible refine HA.out.mono ?_); (rintro e w1 ⟨rfl, hb1⟩); (have HB1 := Lib.hid hb1); (have hz1 := hb1.size); clear hb1) | (go_at_call 10; (with_reducible refine (HSY1.out _ (by repeat' (first | (with_reducible exact HB3.out) | (with_reducible exact (HB2.out.trans (HBB.out.mono (by omega)))) | (with_reducible exact HB2.out) | (with_reducible exact HB1.out) | (with_reducible refine Below.alloc ?_ ?_ _) | (with_reducible refine Below.setCell ?_ ?_ _) | (with_reducible refine Below.drew ?_) | (with_reducible exact Nat.le_refl _) | omega | (simp; done) | (simp; omega)))).mono ?_); (rintro e w2 ⟨v1, rfl, hv1, hb2⟩); (have hz2 := hb2.size); (have HB2 : Hid (Below w.heap.size w w2) := Lib.hid (Below.trans (by repeat' (first | (with_reducible exact HB3.out) | (with_reducible exact (HB2.out.trans (HBB.out.mono (by omega)))) | (with_reducible exact HB2.out) | (with_reducible exact HB1.out) | (with_reducible refine Below.alloc ?_ ?_ _) | (with_reducible refine Below.setCell ?_ ?_ _) | (with_reducible refine Below.drew ?_) | (with_reducible exact Nat.le_refl _) | omega | (simp; done) | (simp; omega))) (hb2.mono (by first | omega | (simp; omega))))); clear hv1 hb2))
    go_returns
    exact ⟨rfl, (by repeat' (first | (with_reducible exact HB3.out) | (with_reducible exact (HB2.out.trans (HBB.out.mono (by omega)))) | (with_reducible exact HB2.out) | (with_reducible exact HB1.out) | (with_reducible refine Below.alloc ?_ ?_ _) | (with_reducible refine Below.setCell ?_ ?_ _) | (with_reducible refine Below.drew ?_) | (with_reducible exact Nat.le_refl _) | omega | (simp; done) | (simp; omega)))⟩
theorem StropBlanks_walk (t : ByteArray) (r k : Int) (w : World) (h : Wo w) (h0 : 0 ≤ k) (h1 : k ≤ 255) : Calls Tryz.prog 7 #[.string t, .int .i64 r, .int .u8 k] w fun e w' => e = .returned (.bool true) ∧ Below w.heap.size w w' := by
  obtain ⟨n, rfl⟩ : ∃ n : Nat, k = (n : Int) := ⟨k.toNat, by omega⟩
  by_cases hn : t.size ≤ 300 ∧ (syF r t).2.1 = 0
  · rcases (by omega : n % 4 = 0 ∨ n % 4 = 1 ∨ n % 4 = 2 ∨ n % 4 = 3) with hj | hj | hj | hj
    · exact bl_0 t r n hj (by omega) hn.1 hn.2 w h
    · exact bl_1 t r n hj (by omega) hn.1 hn.2 w h
    · exact bl_2 t r n hj (by omega) hn.1 hn.2 w h
    · exact bl_3 t r n hj (by omega) hn.1 hn.2 w h
  · exact bl_out t r n hn w h
end Go.Proofs.YtbnldpcbdeeflaaGreatDoor
