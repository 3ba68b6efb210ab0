/- StropAscends' walk. Condition: the tables hold what they are laid with. -/
import Derived.Test.YtbnldpcbdeeflaaGreatDoorWc
import Derived.Test.YtbnldpcbdeeflaaGreatDoorHq
import Derived.Deep.RegionWith
import Derived.BigRegion
import Derived.Deep.RegionHeld3
namespace Go.Proofs.YtbnldpcbdeeflaaGreatDoor
open Go.ChangeShapes Go.WideShapes Go.ChangeAt Go.RowKit

theorem sl_len {w : World} {B n : Nat} {v : Value} {l : List Sy} (h : Sl w B v l) (hl : l.length = n) (hn : 0 < n) : ∃ g cap, v = .slice (some ⟨g, 0, none⟩) n cap ∧ n ≤ cap ∧ g < w.heap.size ∧ ∀ j u, (sy l)[j]? = some u → w.cell? ⟨g, j, none⟩ = some u := by
  rcases Sl.form2 h with ⟨_, h0⟩ | h1
  · rw [h0] at hl; subst hl; exact absurd hn (Nat.lt_irrefl _)
  · rw [hl] at h1; exact h1
theorem sy_app (l m : List Sy) : sy (l ++ m) = sy l ++ sy m := by unfold sy; rw [List.flatMap_append]
theorem sy_take {l : List Sy} {i j : Nat} {u : Value} (h : (sy (l.take i))[j]? = some u) : (sy l)[j]? = some u := by
  have e : sy l = sy (l.take i) ++ sy (l.drop i) := by rw [← sy_app, List.take_append_drop]
  rw [e, List.getElem?_append_left (List.getElem?_eq_some_iff.1 h).1]
  exact h
theorem eq_take (g1 g2 c1 c2 i : Nat) (l m : List Sy) (w : World) (hi : i ≤ l.length) (hm : m.take i = l.take i) (hl : l.length ≤ 1000000) (hc1 : i ≤ c1) (hc2 : i ≤ c2) (h1 : g1 < w.heap.size) (h2 : g2 < w.heap.size) (q1 : ∀ j u, (sy m)[j]? = some u → w.cell? ⟨g1, j, none⟩ = some u) (q2 : ∀ j u, (sy l)[j]? = some u → w.cell? ⟨g2, j, none⟩ = some u) :
    Calls Tryz.prog 12 #[.slice (some ⟨g1, 0, none⟩) i c1, .slice (some ⟨g2, 0, none⟩) i c2] w fun e w' => e = .returned (.bool true) ∧ Below w.heap.size w w' := by
  have hlen : (l.take i).length = i := by rw [List.length_take]; omega
  have h := equal_some g1 g2 c1 c2 (l.take i) w (by omega) (by omega) (by omega) h1 h2 (fun j u hj => q1 j u (by rw [← hm] at hj; exact sy_take hj)) (fun j u hj => q2 j u (sy_take hj))
  rw [hlen] at h
  exact h
set_option maxRecDepth 100000 in
set_option maxHeartbeats 8000000 in
theorem as_out (t : ByteArray) (r : Int) (hn : ¬ (t.size ≤ 300 ∧ (syF r t).2.1 = 0)) (w : World) (h : Wo w) : Calls Tryz.prog 6 #[.string t, .int .i64 r] w fun e w' => e = .returned (.bool true) ∧ Below w.heap.size w w' := by
  have HA := Lib.hid (awake_any w h)
  have hbl := fun (k : (syF r t).2.1 ≠ 0) => bad_list k
  obtain ⟨⟨p, c, l⟩, hR⟩ : ∃ R, syF r t = R := ⟨_, rfl⟩
  have HSY1 := Lib.hid (fun (W : World) (hb : Below w.heap.size w W) => (show Calls Tryz.prog 10 #[.string t, .int .i64 r] W (SyP W (p, c, l)) from hR ▸ (h.call hb).sym t r))
  rw [hR] at hn hbl
  simp only at hn hbl
  clear h hR
  by_cases hz : t.size ≤ 300
  · have d1 : decide ((t.size : Int) > 300) = false := decide_eq_false (by omega)
    have hc : c ≠ 0 := fun e => hn ⟨hz, e⟩
    have d2 : (c != 0) = true := by rw [bne_iff_ne]; exact hc
    have hl := hbl hc
    subst hl
    clear hn hbl hc
    go_enter Tryz.func6, Tryz.ntmps6
    go_upto_region 7 with (first | (go_at_call 9; (with_reducible refine HA.out.mono ?_); (rintro e w1 ⟨rfl, hb1⟩); (have HB1 := Lib.hid hb1); (have hz1 := hb1.size); clear hb1) | (go_at_call 10; (with_reducible refine (HSY1.out _ (by repeat' (first | (with_reducible exact HB5.out) | (with_reducible exact HB4.out) | (with_reducible exact HBW.out) | (with_reducible exact HBR.out) | (with_reducible exact HB2.out) | (with_reducible exact HB1.out) | (with_reducible refine Below.alloc ?_ ?_ _) | (with_reducible refine Below.setCell ?_ ?_ _) | (with_reducible refine Below.drew ?_) | (with_reducible exact Nat.le_refl _) | omega | (simp; done) | (simp; omega)))).mono ?_); (rintro e w2 ⟨v1, rfl, hv1, hb2⟩); (have hz2 := hb2.size); (have HV1 := Lib.hid hv1); (have HB2 : Hid (Below w.heap.size w w2) := Lib.hid (Below.trans (by repeat' (first | (with_reducible exact HB5.out) | (with_reducible exact HB4.out) | (with_reducible exact HBW.out) | (with_reducible exact HBR.out) | (with_reducible exact HB2.out) | (with_reducible exact HB1.out) | (with_reducible refine Below.alloc ?_ ?_ _) | (with_reducible refine Below.setCell ?_ ?_ _) | (with_reducible refine Below.drew ?_) | (with_reducible exact Nat.le_refl _) | omega | (simp; done) | (simp; omega))) (hb2.mono (by first | omega | (simp; done) | (simp; omega))))); clear hv1 hb2))
    rcases Sl.form2 HV1.out with ⟨rfl, _⟩ | ⟨g, cap, rfl, _, _, _⟩
    all_goals
      go_wp2_with fail
      go_returns
      exact ⟨rfl, (by repeat' (first | (with_reducible exact HB5.out) | (with_reducible exact HB4.out) | (with_reducible exact HBW.out) | (with_reducible exact HBR.out) | (with_reducible exact HB2.out) | (with_reducible exact HB1.out) | (with_reducible refine Below.alloc ?_ ?_ _) | (with_reducible refine Below.setCell ?_ ?_ _) | (with_reducible refine Below.drew ?_) | (with_reducible exact Nat.le_refl _) | omega | (simp; done) | (simp; omega)))⟩
  · have d1 : decide ((t.size : Int) > 300) = true := decide_eq_true (by omega)
    clear hn hbl
    go_enter Tryz.func6, Tryz.ntmps6
    go_wp2_with (go_at_call 9; (with_reducible refine HA.out.mono ?_); (rintro e w1 ⟨rfl, hb1⟩); (have HB1 := Lib.hid hb1); (have hz1 := hb1.size); clear hb1)
    go_returns
    exact ⟨rfl, (by repeat' (first | (with_reducible exact HB5.out) | (with_reducible exact HB4.out) | (with_reducible exact HBW.out) | (with_reducible exact HBR.out) | (with_reducible exact HB2.out) | (with_reducible exact HB1.out) | (with_reducible refine Below.alloc ?_ ?_ _) | (with_reducible refine Below.setCell ?_ ?_ _) | (with_reducible refine Below.drew ?_) | (with_reducible exact Nat.le_refl _) | omega | (simp; done) | (simp; omega)))⟩
set_option maxRecDepth 100000 in
set_option maxHeartbeats 16000000 in
theorem as_run (t : ByteArray) (r : Int) (hz : t.size ≤ 300) (hc : (syF r t).2.1 = 0) (w : World) (h : Wo w) : Calls Tryz.prog 6 #[.string t, .int .i64 r] w fun e w' => e = .returned (.bool true) ∧ Below w.heap.size w w' := by
  have HA := Lib.hid (awake_any w h)
  have hok := (syF_ok hc).2.2.2
  have hln := syF_bound r t
  have hch := ch_all hc (by omega)
  have hrb := rb_all hc
  have hki := asc_kind hc
  have hat := asc_at hc
  obtain ⟨hla, hpos⟩ := asc_last hc
  obtain ⟨l, hl⟩ : ∃ l, (syF r t).2.2 = l := ⟨_, rfl⟩
  have hR : syF r t = (0, 0, l) := by rw [← hl, hok]
  rw [hl] at hln hch hrb hki hat hla hpos
  obtain ⟨N, hn⟩ : ∃ N, l.length = N := ⟨_, rfl⟩
  obtain ⟨m, hm⟩ : ∃ m, N - 1 = m := ⟨_, rfl⟩
  rw [hn, hm] at hla
  rw [hn] at hln hpos
  have HSY1 := Lib.hid (fun (W : World) (hb : Below w.heap.size w W) => (show Calls Tryz.prog 10 #[.string t, .int .i64 r] W (SyP W (0, 0, l)) from hR ▸ (h.call hb).sym t r))
  have HSYB := Lib.hid (fun (W : World) (hb : Below w.heap.size w W) (b : Nat) (m : List Sy) (hm : syF r (t.extract 0 b) = (0, 0, m)) (T : ByteArray) (hT : T = t.extract 0 b) => (show Calls Tryz.prog 10 #[.string T, .int .i64 r] W (SyP W (0, 0, m)) from by rw [hT]; exact hm ▸ (h.call hb).sym _ r))
  have HCH := Lib.hid (fun (W : World) (hb : Below w.heap.size w W) (k : Int) (x : ByteArray) (p : Int) (hx : x.size ≤ 300) (hk : chF k x = 0) => (show Calls Tryz.prog 14 #[.agg #[.int .i64 k, .string x, .int .i64 p]] W fun e w' => e = .returned (.int .i64 0) ∧ Below W.heap.size W w' from hk ▸ check_any k x p W (by omega) (by have := dbQ_size x; omega) (h.call hb)))
  have d1 : decide ((t.size : Int) > 300) = false := decide_eq_false (by omega)
  have HHA := Lib.hid hat
  have HKI := Lib.hid hki
  have HRB := Lib.hid hrb
  have HCC := Lib.hid hch
  have HLA := Lib.hid hla
  have HLN := Lib.hid hn
  have HNL : Hid (N ≤ 65537) := Lib.hid hln
  have HPO := Lib.hid hpos
  have HM := Lib.hid hm
  have hn9 : N < 70000 := by omega
  clear h hR hok hl hc hat hki hrb hch hla hn hln hpos hm
  go_enter Tryz.func6, Tryz.ntmps6
  go_wp2_with (first | (go_at_call 9; (with_reducible refine HA.out.mono ?_); (rintro e w1 ⟨rfl, hb1⟩); (have HB1 := Lib.hid hb1); (have hz1 := hb1.size); clear hb1) | (go_at_call 10; (with_reducible refine (HSY1.out _ (by repeat' (first | (with_reducible exact HB5.out) | (with_reducible exact HB4.out) | (with_reducible exact HBW.out) | (with_reducible exact HBR.out) | (with_reducible exact HB2.out) | (with_reducible exact HB1.out) | (with_reducible refine Below.alloc ?_ ?_ _) | (with_reducible refine Below.setCell ?_ ?_ _) | (with_reducible refine Below.drew ?_) | (with_reducible exact Nat.le_refl _) | omega | (simp; done) | (simp; omega)))).mono ?_); (rintro e w2 ⟨v1, rfl, hv1, hb2⟩); (have hz2 := hb2.size); (obtain ⟨g, cap, rfl, hcap, hg, hq⟩ := sl_len hv1 HLN.out HPO.out); (have HQ := Lib.hid hq); (have HB2 : Hid (Below w.heap.size w w2) := Lib.hid (Below.trans (by repeat' (first | (with_reducible exact HB5.out) | (with_reducible exact HB4.out) | (with_reducible exact HBW.out) | (with_reducible exact HBR.out) | (with_reducible exact HB2.out) | (with_reducible exact HB1.out) | (with_reducible refine Below.alloc ?_ ?_ _) | (with_reducible refine Below.setCell ?_ ?_ _) | (with_reducible refine Below.drew ?_) | (with_reducible exact Nat.le_refl _) | omega | (simp; done) | (simp; omega))) (hb2.mono (by first | omega | (simp; done) | (simp; omega))))); clear hv1 hb2 hq))
  go_loopw [30] (fun v30 wr => ∃ i : Nat, i ≤ N ∧ v30 = .int .i64 i ∧ Below w2.heap.size w2 wr) (fun v30 _ => N - (intOf v30).toNat)
  case atStart => exact ⟨0, Nat.zero_le _, rfl, (Below.refl _ w2).alloc (Nat.le_refl _) _⟩
  case round =>
    obtain ⟨i, hi, rfl, hb⟩ := hrel
    have HLR := Lib.hid hb
    have HBR : Hid (Below w.heap.size w wr) := Lib.hid (HB2.out.trans (hb.mono (by omega)))
    have hzr := hb.size
    by_cases hil : i < N
    · obtain ⟨s, hs⟩ : ∃ s, l[i]? = some s := ⟨l[i]'(by rw [HLN.out]; exact hil), List.getElem?_eq_getElem (by rw [HLN.out]; exact hil)⟩
      obtain ⟨s1, s2, s3⟩ := sy_at l i s hs
      have a0 : wr.cell? ⟨g, i * 3, none⟩ = some (.int .i64 s.1) := (hb.cell (p := ⟨g, i * 3, none⟩) hg).trans (HQ.out _ _ s1)
      have a1 : wr.cell? ⟨g, i * 3 + 1, none⟩ = some (.string s.2.1) := (hb.cell (p := ⟨g, i * 3 + 1, none⟩) hg).trans (HQ.out _ _ s2)
      have a2 : wr.cell? ⟨g, i * 3 + 2, none⟩ = some (.int .i64 s.2.2) := (hb.cell (p := ⟨g, i * 3 + 2, none⟩) hg).trans (HQ.out _ _ s3)
      obtain ⟨b, hbs, hbz, hpre, hprev⟩ := HHA.out i s hs
      have hkk := HKI.out i s hs
      rw [HLN.out, HM.out] at hkk
      have hch := HCC.out s (List.mem_of_getElem? hs)
      have hxz : s.2.1.size ≤ 300 := by
        rcases HRB.out s (List.mem_of_getElem? hs) with e | ⟨_, e, _⟩
        · rw [e]; exact Nat.zero_le _
        · omega
      obtain ⟨k, x, p⟩ := s
      simp only at a0 a1 a2 hbs hprev hkk hch hxz
      subst hbs
      have HC1 := Lib.hid (fun (W : World) (hb : Below w.heap.size w W) => HCH.out W hb k x (b : Int) hxz hch)
      have HS1 := Lib.hid (fun (W : World) (hb : Below w.heap.size w W) (T : ByteArray) (hT : T = t.extract 0 b) => HSYB.out W hb b _ hpre T hT)
      have hbi : (b : Int) ≤ (t.size : Int) := by omega
      have hk1 : (k == 0) = decide (i = m) := by
        by_cases e : i = m
        · rw [decide_eq_true e, beq_iff_eq]; exact hkk.2 e
        · rw [decide_eq_false e, beq_eq_false_iff_ne]; exact fun k0 => e (hkk.1 k0)
      have hk2 : ((i : Int) == (m : Int)) = decide (i = m) := by
        by_cases e : i = m
        · rw [decide_eq_true e, beq_iff_eq, e]
        · rw [decide_eq_false e, beq_eq_false_iff_ne]; omega
      obtain ⟨D, hD⟩ : ∃ D, decide (i = m) = D := ⟨_, rfl⟩
      have hk3 : (i == m) = decide (i = m) := rfl
      rw [hD] at hk1 hk2 hk3
      have HK3 := Lib.hid hk3
      have HK4 := Lib.hid hD
      have HK1 := Lib.hid hk1
      have HK2 := Lib.hid hk2
      have hml : (l.take i ++ ([(0, ⟨#[]⟩, (b : Int))] : List Sy)).length = i + 1 := by rw [List.length_append, List.length_take, HLN.out, List.length_singleton]; omega
      have hmt : (l.take i ++ ([(0, ⟨#[]⟩, (b : Int))] : List Sy)).take i = l.take i := by rw [List.take_left']; rw [List.length_take, HLN.out]; omega
      have HML := Lib.hid hml
      have HMT := Lib.hid hmt
      have hcap2 : i ≤ cap := by omega
      have hcap3 : (i : Int) ≤ (cap : Int) := by omega
      have HPV := Lib.hid hprev
      have HS9 := Lib.hid hs
      have HXZ := Lib.hid hxz
      have HBI := Lib.hid hbi
      have HC3 := Lib.hid hcap3
      have HC2 := Lib.hid hcap2
      clear hb s1 s2 s3 hpre hkk hch hml hmt hD hk1 hk2 hprev hs hxz hcap2 hcap3 hbi hbz hk3
      go_upto_region 11 with fail
      have hO1 : Own (wr.alloc (.cells #[.int .i64 k, .string x, .int .i64 (b : Int)] 31)) wr.heap.size 31 [.int .i64 k, .string x, .int .i64 (b : Int)] := Own.new wr 31 [.int .i64 k, .string x, .int .i64 (b : Int)]
      have hBW : Below wr.heap.size wr (wr.alloc (.cells #[.int .i64 k, .string x, .int .i64 (b : Int)] 31)) := (Below.refl wr.heap.size wr).alloc (Nat.le_refl _) _
      generalize (wr.alloc (.cells #[.int .i64 k, .string x, .int .i64 (b : Int)] 31)) = W at *
      have hzW := hBW.size
      have hltW := Own.lt hO1
      have HO1 := Lib.hid hO1
      have HLW : Hid (Below w2.heap.size w2 W) := Lib.hid (HLR.out.trans (hBW.mono hzr))
      have HBW : Hid (Below w.heap.size w W) := Lib.hid (HB2.out.trans (HLW.out.mono (by omega)))
      have e0 : W.drew.cell? ⟨wr.heap.size, 0, none⟩ = some (.int .i64 k) := Own.cell (Own.drew hO1) 0
      have e1 : W.drew.cell? ⟨wr.heap.size, 1, none⟩ = some (.string x) := Own.cell (Own.drew hO1) 1
      have e2 : W.drew.cell? ⟨wr.heap.size, 2, none⟩ = some (.int .i64 (b : Int)) := Own.cell (Own.drew hO1) 2
      clear hBW hO1 a0 a1 a2
      have hk1 := HK1.out
      have hk2 := HK2.out
      have hk3 := HK3.out
      have hk4 := HK4.out
      have hi0 : (0 : Int) ≤ (i : Int) := by omega
      have hwn1 : IntKind.i64.wrap ((N : Int) - 1) = (m : Int) := by (have e : (N : Int) - 1 = (m : Int) := by have := HM.out; have := HPO.out; omega); rw [e]; exact IntWalk.i64_in _ (by have := HM.out; omega)
      have hwi1 : IntKind.i64.wrap ((i : Int) + 1 - 1) = (i : Int) := by (have e : (i : Int) + 1 - 1 = (i : Int) := by omega); rw [e]; exact IntWalk.i64_in _ (by omega)
      rcases (by omega : i = 0 ∨ 1 ≤ i) with hi1 | hi1
      · have hgt : decide ((i : Int) > 0) = false := decide_eq_false (by omega)
        have HI1 : Hid (i = 0) := Lib.hid hi1
        clear hi1
        refine wp_region_held_drew (S := (fun w' => w'.cell? ⟨wr.heap.size, 0, none⟩ = some (.int .i64 k) ∧ w'.cell? ⟨wr.heap.size, 1, none⟩ = some (.string x) ∧ w'.cell? ⟨wr.heap.size, 2, none⟩ = some (.int .i64 (b : Int)))) (by kernel_rfl) ⟨e0, e1, e2⟩ (fun hH0 => ?_)
        refine wpAnyH_take (i := 0) (oi := { dst := Option.some 35, op := Go.Op.load 31 (Go.Operand.tmp 8), type := 31, pos := "law.go:103", after := #[], guard := Option.none }) (v := .agg #[.int .i64 k, .string x, .int .i64 (b : Int)]) (by kernel_rfl) (by kernel_rfl) (by kernel_rfl) (by kernel_rfl) (fun _ _ _ h => h) (Or.inl ⟨by kernel_rfl, ?_⟩) hH0 ?_
        case refine_1 => (intro w' hS; (try dsimp only at hS); obtain ⟨hs0, hs1, hs2⟩ := hS; first | (go_simp; done) | (with_reducible rfl) | (go_simp; first | exact HI1.out | omega | exact IntWalk.i64_in _ (by omega)))
        (try simp only [Act.put, List.setIfInBounds_toArray, List.set_cons_zero, List.set_cons_succ])
        refine wpAnyH_ready (rs := [1]) (by kernel_rfl) (List.cons_ne_nil _ _) (AllReadyH.cons (o := { dst := Option.some 36, op := Go.Op.call { callee := Go.Callee.value (Go.Operand.func 14), args := #[Go.Operand.tmp 35], argTypes := #[31] }, type := 24, pos := "law.go:103", after := #[{ on := 0, ground := Go.Ground.data }], guard := Option.none }) (by kernel_rfl) (fun K hK => ?_) AllReadyH.nil)
        go_simp
        (refine (HC1.out _ (by repeat' (first | (with_reducible exact HB5.out) | (with_reducible exact HB4.out) | (with_reducible exact HBW.out) | (with_reducible exact HBR.out) | (with_reducible exact HB2.out) | (with_reducible exact HB1.out) | (with_reducible refine Below.alloc ?_ ?_ _) | (with_reducible refine Below.setCell ?_ ?_ _) | (with_reducible refine Below.drew ?_) | (with_reducible exact Nat.le_refl _) | omega | (simp; done) | (simp; omega)))).mono ?_); (rintro e w4 ⟨rfl, hb4⟩); (have hO4 := Own.kept (Own.drew HO1.out) hb4); (have f0 : w4.cell? ⟨wr.heap.size, 0, none⟩ = some (.int .i64 k) := Own.cell hO4 0); (have f1 : w4.cell? ⟨wr.heap.size, 1, none⟩ = some (.string x) := Own.cell hO4 1); (have f2 : w4.cell? ⟨wr.heap.size, 2, none⟩ = some (.int .i64 (b : Int)) := Own.cell hO4 2); (have hz4 := hb4.size); (try simp only [sz_drew] at hz4); (have HL4 : Hid (Below w2.heap.size w2 w4) := Lib.hid (Below.trans (HLW.out.drew) (hb4.mono (by first | omega | (simp; done) | (simp; omega))))); (have HB4 : Hid (Below w.heap.size w w4) := Lib.hid (HB2.out.trans (HL4.out.mono (by omega)))); clear hb4 hO4
        refine hK.out _ _ ⟨f0, f1, f2⟩ (fun hH1 => ?_)
        clear hK K hH0
        (try simp only [Act.put, List.setIfInBounds_toArray, List.set_cons_zero, List.set_cons_succ])
        refine wpAnyH_take (i := 2) (oi := { dst := Option.some 37, op := Go.Op.binOp Go.BinOp.neq 24 (Go.Operand.tmp 36) (Go.Operand.const (Go.Value.int Go.IntKind.i64 0)) 24, type := 4, pos := "law.go:103", after := #[{ on := 1, ground := Go.Ground.data }], guard := Option.none }) (v := .bool false) (by kernel_rfl) (by kernel_rfl) (by kernel_rfl) (by kernel_rfl) (fun _ _ _ h => h) (Or.inl ⟨by kernel_rfl, ?_⟩) hH1 ?_
        case refine_1 => (intro w' hS; (try dsimp only at hS); obtain ⟨hs0, hs1, hs2⟩ := hS; first | (go_simp; done) | (with_reducible rfl) | (go_simp; first | exact HI1.out | omega | exact IntWalk.i64_in _ (by omega)))
        (try simp only [Act.put, List.setIfInBounds_toArray, List.set_cons_zero, List.set_cons_succ])
        refine wpAnyH_take (i := 3) (oi := { dst := Option.some 38, op := Go.Op.move (Go.Operand.tmp 37), type := 4, pos := "law.go:103", after := #[{ on := 2, ground := Go.Ground.data }, { on := 1, ground := Go.Ground.chain }], guard := Option.none }) (v := .bool false) (by kernel_rfl) (by kernel_rfl) (by kernel_rfl) (by kernel_rfl) (fun _ _ _ h => h) (Or.inl ⟨by kernel_rfl, ?_⟩) hH1 ?_
        case refine_1 => (intro w' hS; (try dsimp only at hS); obtain ⟨hs0, hs1, hs2⟩ := hS; first | (go_simp; done) | (with_reducible rfl) | (go_simp; first | exact HI1.out | omega | exact IntWalk.i64_in _ (by omega)))
        (try simp only [Act.put, List.setIfInBounds_toArray, List.set_cons_zero, List.set_cons_succ])
        refine wpAnyH_take (i := 4) (oi := { dst := Option.some 39, op := Go.Op.move (Go.Operand.tmp 7), type := 3, pos := "law.go:103", after := #[{ on := 3, ground := Go.Ground.guard }], guard := Option.some (3, Bool.false) }) (v := .int .i64 (i : Int)) (by kernel_rfl) (by kernel_rfl) (by kernel_rfl) (by kernel_rfl) (fun _ _ _ h => h) (Or.inl ⟨by kernel_rfl, ?_⟩) hH1 ?_
        case refine_1 => (intro w' hS; (try dsimp only at hS); obtain ⟨hs0, hs1, hs2⟩ := hS; first | (go_simp; done) | (with_reducible rfl) | (go_simp; first | exact HI1.out | omega | exact IntWalk.i64_in _ (by omega)))
        (try simp only [Act.put, List.setIfInBounds_toArray, List.set_cons_zero, List.set_cons_succ])
        refine wpAnyH_take (i := 5) (oi := { dst := Option.some 40, op := Go.Op.binOp Go.BinOp.gtr 3 (Go.Operand.tmp 39) (Go.Operand.const (Go.Value.int Go.IntKind.i64 0)) 3, type := 4, pos := "law.go:103", after := #[{ on := 4, ground := Go.Ground.data }, { on := 3, ground := Go.Ground.guard }], guard := Option.some (3, Bool.false) }) (v := .bool false) (by kernel_rfl) (by kernel_rfl) (by kernel_rfl) (by kernel_rfl) (fun _ _ _ h => h) (Or.inl ⟨by kernel_rfl, ?_⟩) hH1 ?_
        case refine_1 => (intro w' hS; (try dsimp only at hS); obtain ⟨hs0, hs1, hs2⟩ := hS; first | (go_simp; done) | (with_reducible rfl) | (go_simp; first | exact HI1.out | omega | exact IntWalk.i64_in _ (by omega)))
        (try simp only [Act.put, List.setIfInBounds_toArray, List.set_cons_zero, List.set_cons_succ])
        refine wpAnyH_take (i := 6) (oi := { dst := Option.some 41, op := Go.Op.move (Go.Operand.tmp 40), type := 4, pos := "law.go:103", after := #[{ on := 5, ground := Go.Ground.data }, { on := 3, ground := Go.Ground.chain }, { on := 3, ground := Go.Ground.guard }], guard := Option.some (3, Bool.false) }) (v := .bool false) (by kernel_rfl) (by kernel_rfl) (by kernel_rfl) (by kernel_rfl) (fun _ _ _ h => h) (Or.inl ⟨by kernel_rfl, ?_⟩) hH1 ?_
        case refine_1 => (intro w' hS; (try dsimp only at hS); obtain ⟨hs0, hs1, hs2⟩ := hS; first | (go_simp; done) | (with_reducible rfl) | (go_simp; first | exact HI1.out | omega | exact IntWalk.i64_in _ (by omega)))
        (try simp only [Act.put, List.setIfInBounds_toArray, List.set_cons_zero, List.set_cons_succ])
        refine wpAnyH_take (i := 7) (oi := { dst := Option.some 42, op := Go.Op.fieldAddr 31 (Go.Operand.tmp 8) 2, type := 0, pos := "law.go:103", after := #[{ on := 6, ground := Go.Ground.guard }], guard := Option.some (6, Bool.true) }) (v := undef) (by kernel_rfl) (by kernel_rfl) (by kernel_rfl) (by kernel_rfl) (fun _ _ _ h => h) (Or.inr ⟨by kernel_rfl, rfl⟩) hH1 ?_
        (try simp only [Act.put, List.setIfInBounds_toArray, List.set_cons_zero, List.set_cons_succ])
        refine wpAnyH_take (i := 8) (oi := { dst := Option.some 43, op := Go.Op.load 3 (Go.Operand.tmp 42), type := 3, pos := "law.go:103", after := #[{ on := 7, ground := Go.Ground.data }, { on := 6, ground := Go.Ground.guard }], guard := Option.some (6, Bool.true) }) (v := undef) (by kernel_rfl) (by kernel_rfl) (by kernel_rfl) (by kernel_rfl) (fun _ _ _ h => h) (Or.inr ⟨by kernel_rfl, rfl⟩) hH1 ?_
        (try simp only [Act.put, List.setIfInBounds_toArray, List.set_cons_zero, List.set_cons_succ])
        refine wpAnyH_take (i := 9) (oi := { dst := Option.some 44, op := Go.Op.move (Go.Operand.tmp 5), type := 23, pos := "law.go:103", after := #[{ on := 6, ground := Go.Ground.guard }], guard := Option.some (6, Bool.true) }) (v := undef) (by kernel_rfl) (by kernel_rfl) (by kernel_rfl) (by kernel_rfl) (fun _ _ _ h => h) (Or.inr ⟨by kernel_rfl, rfl⟩) hH1 ?_
        (try simp only [Act.put, List.setIfInBounds_toArray, List.set_cons_zero, List.set_cons_succ])
        refine wpAnyH_take (i := 10) (oi := { dst := Option.some 45, op := Go.Op.move (Go.Operand.tmp 7), type := 3, pos := "law.go:103", after := #[{ on := 6, ground := Go.Ground.guard }], guard := Option.some (6, Bool.true) }) (v := undef) (by kernel_rfl) (by kernel_rfl) (by kernel_rfl) (by kernel_rfl) (fun _ _ _ h => h) (Or.inr ⟨by kernel_rfl, rfl⟩) hH1 ?_
        (try simp only [Act.put, List.setIfInBounds_toArray, List.set_cons_zero, List.set_cons_succ])
        refine wpAnyH_take (i := 11) (oi := { dst := Option.some 46, op := Go.Op.binOp Go.BinOp.sub 3 (Go.Operand.tmp 45) (Go.Operand.const (Go.Value.int Go.IntKind.i64 1)) 3, type := 3, pos := "law.go:103", after := #[{ on := 10, ground := Go.Ground.data }, { on := 6, ground := Go.Ground.guard }], guard := Option.some (6, Bool.true) }) (v := undef) (by kernel_rfl) (by kernel_rfl) (by kernel_rfl) (by kernel_rfl) (fun _ _ _ h => h) (Or.inr ⟨by kernel_rfl, rfl⟩) hH1 ?_
        (try simp only [Act.put, List.setIfInBounds_toArray, List.set_cons_zero, List.set_cons_succ])
        refine wpAnyH_take (i := 12) (oi := { dst := Option.some 47, op := Go.Op.indexAddr 23 (Go.Operand.tmp 44) (Go.Operand.tmp 46), type := 0, pos := "law.go:103", after := #[{ on := 9, ground := Go.Ground.data }, { on := 11, ground := Go.Ground.data }, { on := 6, ground := Go.Ground.guard }], guard := Option.some (6, Bool.true) }) (v := undef) (by kernel_rfl) (by kernel_rfl) (by kernel_rfl) (by kernel_rfl) (fun _ _ _ h => h) (Or.inr ⟨by kernel_rfl, rfl⟩) hH1 ?_
        (try simp only [Act.put, List.setIfInBounds_toArray, List.set_cons_zero, List.set_cons_succ])
        refine wpAnyH_take (i := 13) (oi := { dst := Option.some 48, op := Go.Op.fieldAddr 31 (Go.Operand.tmp 47) 2, type := 0, pos := "law.go:103", after := #[{ on := 12, ground := Go.Ground.data }, { on := 6, ground := Go.Ground.guard }], guard := Option.some (6, Bool.true) }) (v := undef) (by kernel_rfl) (by kernel_rfl) (by kernel_rfl) (by kernel_rfl) (fun _ _ _ h => h) (Or.inr ⟨by kernel_rfl, rfl⟩) hH1 ?_
        (try simp only [Act.put, List.setIfInBounds_toArray, List.set_cons_zero, List.set_cons_succ])
        refine wpAnyH_take (i := 14) (oi := { dst := Option.some 49, op := Go.Op.load 3 (Go.Operand.tmp 48), type := 3, pos := "law.go:103", after := #[{ on := 13, ground := Go.Ground.data }, { on := 6, ground := Go.Ground.guard }], guard := Option.some (6, Bool.true) }) (v := undef) (by kernel_rfl) (by kernel_rfl) (by kernel_rfl) (by kernel_rfl) (fun _ _ _ h => h) (Or.inr ⟨by kernel_rfl, rfl⟩) hH1 ?_
        (try simp only [Act.put, List.setIfInBounds_toArray, List.set_cons_zero, List.set_cons_succ])
        refine wpAnyH_take (i := 15) (oi := { dst := Option.some 50, op := Go.Op.binOp Go.BinOp.leq 3 (Go.Operand.tmp 43) (Go.Operand.tmp 49) 3, type := 4, pos := "law.go:103", after := #[{ on := 8, ground := Go.Ground.data }, { on := 14, ground := Go.Ground.data }, { on := 6, ground := Go.Ground.guard }], guard := Option.some (6, Bool.true) }) (v := undef) (by kernel_rfl) (by kernel_rfl) (by kernel_rfl) (by kernel_rfl) (fun _ _ _ h => h) (Or.inr ⟨by kernel_rfl, rfl⟩) hH1 ?_
        (try simp only [Act.put, List.setIfInBounds_toArray, List.set_cons_zero, List.set_cons_succ])
        refine wpAnyH_take (i := 16) (oi := { dst := Option.some 51, op := Go.Op.pick (Go.Operand.tmp 41) (Go.Operand.tmp 50) (Go.Operand.const (Go.Value.bool Bool.false)), type := 4, pos := "law.go:103", after := #[{ on := 6, ground := Go.Ground.data }, { on := 15, ground := Go.Ground.data }, { on := 3, ground := Go.Ground.guard }], guard := Option.some (3, Bool.false) }) (v := .bool false) (by kernel_rfl) (by kernel_rfl) (by kernel_rfl) (by kernel_rfl) (fun _ _ _ h => h) (Or.inl ⟨by kernel_rfl, ?_⟩) hH1 ?_
        case refine_1 => (intro w' hS; (try dsimp only at hS); obtain ⟨hs0, hs1, hs2⟩ := hS; first | (go_simp; done) | (with_reducible rfl) | (go_simp; first | exact HI1.out | omega | exact IntWalk.i64_in _ (by omega)))
        (try simp only [Act.put, List.setIfInBounds_toArray, List.set_cons_zero, List.set_cons_succ])
        refine wpAnyH_take (i := 17) (oi := { dst := Option.some 52, op := Go.Op.move (Go.Operand.tmp 51), type := 4, pos := "law.go:103", after := #[{ on := 16, ground := Go.Ground.data }, { on := 6, ground := Go.Ground.chain }, { on := 3, ground := Go.Ground.guard }], guard := Option.some (3, Bool.false) }) (v := .bool false) (by kernel_rfl) (by kernel_rfl) (by kernel_rfl) (by kernel_rfl) (fun _ _ _ h => h) (Or.inl ⟨by kernel_rfl, ?_⟩) hH1 ?_
        case refine_1 => (intro w' hS; (try dsimp only at hS); obtain ⟨hs0, hs1, hs2⟩ := hS; first | (go_simp; done) | (with_reducible rfl) | (go_simp; first | exact HI1.out | omega | exact IntWalk.i64_in _ (by omega)))
        (try simp only [Act.put, List.setIfInBounds_toArray, List.set_cons_zero, List.set_cons_succ])
        refine wpAnyH_take (i := 18) (oi := { dst := Option.some 53, op := Go.Op.fieldAddr 31 (Go.Operand.tmp 8) 0, type := 0, pos := "law.go:103", after := #[{ on := 17, ground := Go.Ground.guard }], guard := Option.some (17, Bool.true) }) (v := undef) (by kernel_rfl) (by kernel_rfl) (by kernel_rfl) (by kernel_rfl) (fun _ _ _ h => h) (Or.inr ⟨by kernel_rfl, rfl⟩) hH1 ?_
        (try simp only [Act.put, List.setIfInBounds_toArray, List.set_cons_zero, List.set_cons_succ])
        refine wpAnyH_take (i := 19) (oi := { dst := Option.some 54, op := Go.Op.load 3 (Go.Operand.tmp 53), type := 3, pos := "law.go:103", after := #[{ on := 18, ground := Go.Ground.data }, { on := 17, ground := Go.Ground.guard }], guard := Option.some (17, Bool.true) }) (v := undef) (by kernel_rfl) (by kernel_rfl) (by kernel_rfl) (by kernel_rfl) (fun _ _ _ h => h) (Or.inr ⟨by kernel_rfl, rfl⟩) hH1 ?_
        (try simp only [Act.put, List.setIfInBounds_toArray, List.set_cons_zero, List.set_cons_succ])
        refine wpAnyH_take (i := 20) (oi := { dst := Option.some 55, op := Go.Op.binOp Go.BinOp.neq 3 (Go.Operand.tmp 54) (Go.Operand.const (Go.Value.int Go.IntKind.i64 0)) 3, type := 4, pos := "law.go:103", after := #[{ on := 19, ground := Go.Ground.data }, { on := 17, ground := Go.Ground.guard }], guard := Option.some (17, Bool.true) }) (v := undef) (by kernel_rfl) (by kernel_rfl) (by kernel_rfl) (by kernel_rfl) (fun _ _ _ h => h) (Or.inr ⟨by kernel_rfl, rfl⟩) hH1 ?_
        (try simp only [Act.put, List.setIfInBounds_toArray, List.set_cons_zero, List.set_cons_succ])
        refine wpAnyH_take (i := 21) (oi := { dst := Option.some 56, op := Go.Op.pick (Go.Operand.tmp 52) (Go.Operand.tmp 55) (Go.Operand.const (Go.Value.bool Bool.false)), type := 4, pos := "law.go:103", after := #[{ on := 17, ground := Go.Ground.data }, { on := 20, ground := Go.Ground.data }, { on := 3, ground := Go.Ground.guard }], guard := Option.some (3, Bool.false) }) (v := .bool false) (by kernel_rfl) (by kernel_rfl) (by kernel_rfl) (by kernel_rfl) (fun _ _ _ h => h) (Or.inl ⟨by kernel_rfl, ?_⟩) hH1 ?_
        case refine_1 => (intro w' hS; (try dsimp only at hS); obtain ⟨hs0, hs1, hs2⟩ := hS; first | (go_simp; done) | (with_reducible rfl) | (go_simp; first | exact HI1.out | omega | exact IntWalk.i64_in _ (by omega)))
        (try simp only [Act.put, List.setIfInBounds_toArray, List.set_cons_zero, List.set_cons_succ])
        refine wpAnyH_take (i := 22) (oi := { dst := Option.some 57, op := Go.Op.pick (Go.Operand.tmp 38) (Go.Operand.const (Go.Value.bool Bool.true)) (Go.Operand.tmp 56), type := 4, pos := "law.go:103", after := #[{ on := 3, ground := Go.Ground.data }, { on := 21, ground := Go.Ground.data }], guard := Option.none }) (v := .bool false) (by kernel_rfl) (by kernel_rfl) (by kernel_rfl) (by kernel_rfl) (fun _ _ _ h => h) (Or.inl ⟨by kernel_rfl, ?_⟩) hH1 ?_
        case refine_1 => (intro w' hS; (try dsimp only at hS); obtain ⟨hs0, hs1, hs2⟩ := hS; first | (go_simp; done) | (with_reducible rfl) | (go_simp; first | exact HI1.out | omega | exact IntWalk.i64_in _ (by omega)))
        (try simp only [Act.put, List.setIfInBounds_toArray, List.set_cons_zero, List.set_cons_succ])
        refine wpAnyH_take (i := 23) (oi := { dst := Option.some 58, op := Go.Op.move (Go.Operand.tmp 57), type := 4, pos := "law.go:103", after := #[{ on := 22, ground := Go.Ground.data }, { on := 17, ground := Go.Ground.chain }], guard := Option.none }) (v := .bool false) (by kernel_rfl) (by kernel_rfl) (by kernel_rfl) (by kernel_rfl) (fun _ _ _ h => h) (Or.inl ⟨by kernel_rfl, ?_⟩) hH1 ?_
        case refine_1 => (intro w' hS; (try dsimp only at hS); obtain ⟨hs0, hs1, hs2⟩ := hS; first | (go_simp; done) | (with_reducible rfl) | (go_simp; first | exact HI1.out | omega | exact IntWalk.i64_in _ (by omega)))
        (try simp only [Act.put, List.setIfInBounds_toArray, List.set_cons_zero, List.set_cons_succ])
        refine wpAnyH_take (i := 24) (oi := { dst := Option.some 59, op := Go.Op.fieldAddr 31 (Go.Operand.tmp 8) 0, type := 0, pos := "law.go:103", after := #[{ on := 23, ground := Go.Ground.guard }], guard := Option.some (23, Bool.false) }) (v := .pointer (some ⟨wr.heap.size, 0, none⟩)) (by kernel_rfl) (by kernel_rfl) (by kernel_rfl) (by kernel_rfl) (fun _ _ _ h => h) (Or.inl ⟨by kernel_rfl, ?_⟩) hH1 ?_
        case refine_1 => (intro w' hS; (try dsimp only at hS); obtain ⟨hs0, hs1, hs2⟩ := hS; first | (go_simp; done) | (with_reducible rfl) | (go_simp; first | exact HI1.out | omega | exact IntWalk.i64_in _ (by omega)))
        (try simp only [Act.put, List.setIfInBounds_toArray, List.set_cons_zero, List.set_cons_succ])
        refine wpAnyH_take (i := 25) (oi := { dst := Option.some 60, op := Go.Op.load 3 (Go.Operand.tmp 59), type := 3, pos := "law.go:103", after := #[{ on := 24, ground := Go.Ground.data }, { on := 23, ground := Go.Ground.guard }], guard := Option.some (23, Bool.false) }) (v := .int .i64 k) (by kernel_rfl) (by kernel_rfl) (by kernel_rfl) (by kernel_rfl) (fun _ _ _ h => h) (Or.inl ⟨by kernel_rfl, ?_⟩) hH1 ?_
        case refine_1 => (intro w' hS; (try dsimp only at hS); obtain ⟨hs0, hs1, hs2⟩ := hS; first | (go_simp; done) | (with_reducible rfl) | (go_simp; first | exact HI1.out | omega | exact IntWalk.i64_in _ (by omega)))
        (try simp only [Act.put, List.setIfInBounds_toArray, List.set_cons_zero, List.set_cons_succ])
        refine wpAnyH_take (i := 26) (oi := { dst := Option.some 61, op := Go.Op.binOp Go.BinOp.eql 3 (Go.Operand.tmp 60) (Go.Operand.const (Go.Value.int Go.IntKind.i64 0)) 3, type := 4, pos := "law.go:103", after := #[{ on := 25, ground := Go.Ground.data }, { on := 23, ground := Go.Ground.guard }], guard := Option.some (23, Bool.false) }) (v := .bool D) (by kernel_rfl) (by kernel_rfl) (by kernel_rfl) (by kernel_rfl) (fun _ _ _ h => h) (Or.inl ⟨by kernel_rfl, ?_⟩) hH1 ?_
        case refine_1 => (intro w' hS; (try dsimp only at hS); obtain ⟨hs0, hs1, hs2⟩ := hS; first | (go_simp; done) | (with_reducible rfl) | (go_simp; first | exact HI1.out | omega | exact IntWalk.i64_in _ (by omega)))
        (try simp only [Act.put, List.setIfInBounds_toArray, List.set_cons_zero, List.set_cons_succ])
        refine wpAnyH_take (i := 27) (oi := { dst := Option.some 62, op := Go.Op.move (Go.Operand.tmp 7), type := 3, pos := "law.go:103", after := #[{ on := 23, ground := Go.Ground.guard }], guard := Option.some (23, Bool.false) }) (v := .int .i64 (i : Int)) (by kernel_rfl) (by kernel_rfl) (by kernel_rfl) (by kernel_rfl) (fun _ _ _ h => h) (Or.inl ⟨by kernel_rfl, ?_⟩) hH1 ?_
        case refine_1 => (intro w' hS; (try dsimp only at hS); obtain ⟨hs0, hs1, hs2⟩ := hS; first | (go_simp; done) | (with_reducible rfl) | (go_simp; first | exact HI1.out | omega | exact IntWalk.i64_in _ (by omega)))
        (try simp only [Act.put, List.setIfInBounds_toArray, List.set_cons_zero, List.set_cons_succ])
        refine wpAnyH_take (i := 28) (oi := { dst := Option.some 63, op := Go.Op.move (Go.Operand.tmp 5), type := 23, pos := "law.go:103", after := #[{ on := 23, ground := Go.Ground.guard }], guard := Option.some (23, Bool.false) }) (v := .slice (some ⟨g, 0, none⟩) N cap) (by kernel_rfl) (by kernel_rfl) (by kernel_rfl) (by kernel_rfl) (fun _ _ _ h => h) (Or.inl ⟨by kernel_rfl, ?_⟩) hH1 ?_
        case refine_1 => (intro w' hS; (try dsimp only at hS); obtain ⟨hs0, hs1, hs2⟩ := hS; first | (go_simp; done) | (with_reducible rfl) | (go_simp; first | exact HI1.out | omega | exact IntWalk.i64_in _ (by omega)))
        (try simp only [Act.put, List.setIfInBounds_toArray, List.set_cons_zero, List.set_cons_succ])
        refine wpAnyH_take (i := 29) (oi := { dst := Option.some 64, op := Go.Op.call { callee := Go.Callee.builtin Go.Builtin.len, args := #[Go.Operand.tmp 63], argTypes := #[23] }, type := 3, pos := "law.go:103", after := #[{ on := 28, ground := Go.Ground.data }, { on := 23, ground := Go.Ground.guard }], guard := Option.some (23, Bool.false) }) (v := .int .i64 (N : Int)) (by kernel_rfl) (by kernel_rfl) (by kernel_rfl) (by kernel_rfl) (fun _ _ _ h => h) (Or.inl ⟨by kernel_rfl, ?_⟩) hH1 ?_
        case refine_1 => (intro w' hS; (try dsimp only at hS); obtain ⟨hs0, hs1, hs2⟩ := hS; first | (go_simp; done) | (with_reducible rfl) | (go_simp; first | exact HI1.out | omega | exact IntWalk.i64_in _ (by omega)))
        (try simp only [Act.put, List.setIfInBounds_toArray, List.set_cons_zero, List.set_cons_succ])
        refine wpAnyH_take (i := 30) (oi := { dst := Option.some 65, op := Go.Op.binOp Go.BinOp.sub 3 (Go.Operand.tmp 64) (Go.Operand.const (Go.Value.int Go.IntKind.i64 1)) 3, type := 3, pos := "law.go:103", after := #[{ on := 29, ground := Go.Ground.data }, { on := 23, ground := Go.Ground.guard }], guard := Option.some (23, Bool.false) }) (v := .int .i64 (m : Int)) (by kernel_rfl) (by kernel_rfl) (by kernel_rfl) (by kernel_rfl) (fun _ _ _ h => h) (Or.inl ⟨by kernel_rfl, ?_⟩) hH1 ?_
        case refine_1 => (intro w' hS; (try dsimp only at hS); obtain ⟨hs0, hs1, hs2⟩ := hS; first | (go_simp; done) | (with_reducible rfl) | (go_simp; first | exact HI1.out | omega | exact IntWalk.i64_in _ (by omega)))
        (try simp only [Act.put, List.setIfInBounds_toArray, List.set_cons_zero, List.set_cons_succ])
        refine wpAnyH_take (i := 31) (oi := { dst := Option.some 66, op := Go.Op.binOp Go.BinOp.eql 3 (Go.Operand.tmp 62) (Go.Operand.tmp 65) 3, type := 4, pos := "law.go:103", after := #[{ on := 27, ground := Go.Ground.data }, { on := 30, ground := Go.Ground.data }, { on := 23, ground := Go.Ground.guard }], guard := Option.some (23, Bool.false) }) (v := .bool D) (by kernel_rfl) (by kernel_rfl) (by kernel_rfl) (by kernel_rfl) (fun _ _ _ h => h) (Or.inl ⟨by kernel_rfl, ?_⟩) hH1 ?_
        case refine_1 => (intro w' hS; (try dsimp only at hS); obtain ⟨hs0, hs1, hs2⟩ := hS; first | (go_simp; done) | (with_reducible rfl) | (go_simp; first | exact HI1.out | omega | exact IntWalk.i64_in _ (by omega)))
        (try simp only [Act.put, List.setIfInBounds_toArray, List.set_cons_zero, List.set_cons_succ])
        refine wpAnyH_take (i := 32) (oi := { dst := Option.some 67, op := Go.Op.binOp Go.BinOp.neq 4 (Go.Operand.tmp 61) (Go.Operand.tmp 66) 4, type := 4, pos := "law.go:103", after := #[{ on := 26, ground := Go.Ground.data }, { on := 31, ground := Go.Ground.data }, { on := 23, ground := Go.Ground.guard }], guard := Option.some (23, Bool.false) }) (v := .bool false) (by kernel_rfl) (by kernel_rfl) (by kernel_rfl) (by kernel_rfl) (fun _ _ _ h => h) (Or.inl ⟨by kernel_rfl, ?_⟩) hH1 ?_
        case refine_1 => (intro w' hS; (try dsimp only at hS); obtain ⟨hs0, hs1, hs2⟩ := hS; first | (go_simp; done) | (with_reducible rfl) | (go_simp; first | exact HI1.out | omega | exact IntWalk.i64_in _ (by omega)))
        (try simp only [Act.put, List.setIfInBounds_toArray, List.set_cons_zero, List.set_cons_succ])
        refine wpAnyH_take (i := 33) (oi := { dst := Option.some 68, op := Go.Op.pick (Go.Operand.tmp 58) (Go.Operand.const (Go.Value.bool Bool.true)) (Go.Operand.tmp 67), type := 4, pos := "law.go:103", after := #[{ on := 23, ground := Go.Ground.data }, { on := 32, ground := Go.Ground.data }], guard := Option.none }) (v := .bool false) (by kernel_rfl) (by kernel_rfl) (by kernel_rfl) (by kernel_rfl) (fun _ _ _ h => h) (Or.inl ⟨by kernel_rfl, ?_⟩) hH1 ?_
        case refine_1 => (intro w' hS; (try dsimp only at hS); obtain ⟨hs0, hs1, hs2⟩ := hS; first | (go_simp; done) | (with_reducible rfl) | (go_simp; first | exact HI1.out | omega | exact IntWalk.i64_in _ (by omega)))
        (try simp only [Act.put, List.setIfInBounds_toArray, List.set_cons_zero, List.set_cons_succ])
        refine wpAnyH_done (by kernel_rfl) ?_ _
        have hbi := HBI.out
        go_upto_region 14 with (go_at_call 10; (with_reducible refine (HS1.out _ (by repeat' (first | (with_reducible exact HB5.out) | (with_reducible exact HB4.out) | (with_reducible exact HBW.out) | (with_reducible exact HBR.out) | (with_reducible exact HB2.out) | (with_reducible exact HB1.out) | (with_reducible refine Below.alloc ?_ ?_ _) | (with_reducible refine Below.setCell ?_ ?_ _) | (with_reducible refine Below.drew ?_) | (with_reducible exact Nat.le_refl _) | omega | (simp; done) | (simp; omega))) _ ?_).mono ?_); (focus rfl); (rintro e w5 ⟨v5, rfl, hv5, hb5⟩); (obtain ⟨g5, cap5, rfl, hcap5, hg5, hq5⟩ := sl_len hv5 HML.out (Nat.succ_pos i)); (have hz5 := hb5.size); (have HQ5 := Lib.hid hq5); (have HL5 : Hid (Below w2.heap.size w2 w5) := Lib.hid (Below.trans HL4.out (hb5.mono (by omega)))); clear hv5 hb5 hq5)
        have e5 : (w5.alloc (.cells #[.int .i64 0, .int .i64 0] 26)).drew.cell? ⟨w5.heap.size, 1, none⟩ = some (.int .i64 0) := Own.cell (Own.drew (Own.new w5 26 [.int .i64 0, .int .i64 0])) 1
        have HL6 : Hid (Below w2.heap.size w2 (w5.alloc (.cells #[.int .i64 0, .int .i64 0] 26))) := Lib.hid (HL5.out.alloc (by omega) _)
        have Q5 : Hid (∀ q u, (sy (l.take i ++ ([(0, ⟨#[]⟩, (b : Int))] : List Sy)))[q]? = some u → (w5.alloc (.cells #[.int .i64 0, .int .i64 0] 26)).drew.cell? ⟨g5, q, none⟩ = some u) := Lib.hid (fun q u hq => ((((Below.refl w5.heap.size w5).alloc (Nat.le_refl _) (.cells #[.int .i64 0, .int .i64 0] 26)).drew).cell (p := ⟨g5, q, none⟩) hg5).trans (HQ5.out q u hq))
        have Q6 : Hid (∀ q u, (sy l)[q]? = some u → (w5.alloc (.cells #[.int .i64 0, .int .i64 0] 26)).drew.cell? ⟨g, q, none⟩ = some u) := Lib.hid (fun q u hq => ((HL6.out.drew).cell (p := ⟨g, q, none⟩) hg).trans (HQ.out q u hq))
        have hz6 : w5.heap.size + 1 ≤ (w5.alloc (.cells #[.int .i64 0, .int .i64 0] 26)).heap.size := by simp
        generalize (w5.alloc (.cells #[.int .i64 0, .int .i64 0] 26)) = W6 at *
        have hcap2 := HC2.out
        have hcap3 := HC3.out
        have hcap6 : i ≤ cap5 := by omega
        have hcap7 : (i : Int) ≤ (cap5 : Int) := by omega
        refine wp_region_held_drew (S := (fun w' => w'.cell? ⟨w5.heap.size, 1, none⟩ = some (.int .i64 0))) (by kernel_rfl) e5 (fun hH0 => ?_)
        refine wpAnyH_take (i := 0) (oi := { dst := Option.some 78, op := Go.Op.fieldAddr 26 (Go.Operand.tmp 10) 1, type := 0, pos := "law.go:107", after := #[], guard := Option.none }) (v := .pointer (some ⟨w5.heap.size, 1, none⟩)) (by kernel_rfl) (by kernel_rfl) (by kernel_rfl) (by kernel_rfl) (fun _ _ _ h => h) (Or.inl ⟨by kernel_rfl, ?_⟩) hH0 ?_
        case refine_1 => (intro w' hS; (try dsimp only at hS); first | (go_simp; done) | (with_reducible rfl) | (go_simp; first | exact HI1.out | omega | exact IntWalk.i64_in _ (by omega)))
        (try simp only [Act.put, List.setIfInBounds_toArray, List.set_cons_zero, List.set_cons_succ])
        refine wpAnyH_take (i := 1) (oi := { dst := Option.some 79, op := Go.Op.load 24 (Go.Operand.tmp 78), type := 24, pos := "law.go:107", after := #[{ on := 0, ground := Go.Ground.data }], guard := Option.none }) (v := .int .i64 0) (by kernel_rfl) (by kernel_rfl) (by kernel_rfl) (by kernel_rfl) (fun _ _ _ h => h) (Or.inl ⟨by kernel_rfl, ?_⟩) hH0 ?_
        case refine_1 => (intro w' hS; (try dsimp only at hS); first | (go_simp; done) | (with_reducible rfl) | (go_simp; first | exact HI1.out | omega | exact IntWalk.i64_in _ (by omega)))
        (try simp only [Act.put, List.setIfInBounds_toArray, List.set_cons_zero, List.set_cons_succ])
        refine wpAnyH_take (i := 2) (oi := { dst := Option.some 80, op := Go.Op.binOp Go.BinOp.neq 24 (Go.Operand.tmp 79) (Go.Operand.const (Go.Value.int Go.IntKind.i64 0)) 24, type := 4, pos := "law.go:107", after := #[{ on := 1, ground := Go.Ground.data }], guard := Option.none }) (v := .bool false) (by kernel_rfl) (by kernel_rfl) (by kernel_rfl) (by kernel_rfl) (fun _ _ _ h => h) (Or.inl ⟨by kernel_rfl, ?_⟩) hH0 ?_
        case refine_1 => (intro w' hS; (try dsimp only at hS); first | (go_simp; done) | (with_reducible rfl) | (go_simp; first | exact HI1.out | omega | exact IntWalk.i64_in _ (by omega)))
        (try simp only [Act.put, List.setIfInBounds_toArray, List.set_cons_zero, List.set_cons_succ])
        refine wpAnyH_take (i := 3) (oi := { dst := Option.some 81, op := Go.Op.move (Go.Operand.tmp 80), type := 4, pos := "law.go:107", after := #[{ on := 2, ground := Go.Ground.data }], guard := Option.none }) (v := .bool false) (by kernel_rfl) (by kernel_rfl) (by kernel_rfl) (by kernel_rfl) (fun _ _ _ h => h) (Or.inl ⟨by kernel_rfl, ?_⟩) hH0 ?_
        case refine_1 => (intro w' hS; (try dsimp only at hS); first | (go_simp; done) | (with_reducible rfl) | (go_simp; first | exact HI1.out | omega | exact IntWalk.i64_in _ (by omega)))
        (try simp only [Act.put, List.setIfInBounds_toArray, List.set_cons_zero, List.set_cons_succ])
        refine wpAnyH_take (i := 4) (oi := { dst := Option.some 82, op := Go.Op.move (Go.Operand.tmp 9), type := 23, pos := "law.go:107", after := #[{ on := 3, ground := Go.Ground.guard }], guard := Option.some (3, Bool.false) }) (v := .slice (some ⟨g5, 0, none⟩) (i + 1) cap5) (by kernel_rfl) (by kernel_rfl) (by kernel_rfl) (by kernel_rfl) (fun _ _ _ h => h) (Or.inl ⟨by kernel_rfl, ?_⟩) hH0 ?_
        case refine_1 => (intro w' hS; (try dsimp only at hS); first | (go_simp; done) | (with_reducible rfl) | (go_simp; first | exact HI1.out | omega | exact IntWalk.i64_in _ (by omega)))
        (try simp only [Act.put, List.setIfInBounds_toArray, List.set_cons_zero, List.set_cons_succ])
        refine wpAnyH_take (i := 5) (oi := { dst := Option.some 83, op := Go.Op.move (Go.Operand.tmp 9), type := 23, pos := "law.go:107", after := #[{ on := 3, ground := Go.Ground.guard }], guard := Option.some (3, Bool.false) }) (v := .slice (some ⟨g5, 0, none⟩) (i + 1) cap5) (by kernel_rfl) (by kernel_rfl) (by kernel_rfl) (by kernel_rfl) (fun _ _ _ h => h) (Or.inl ⟨by kernel_rfl, ?_⟩) hH0 ?_
        case refine_1 => (intro w' hS; (try dsimp only at hS); first | (go_simp; done) | (with_reducible rfl) | (go_simp; first | exact HI1.out | omega | exact IntWalk.i64_in _ (by omega)))
        (try simp only [Act.put, List.setIfInBounds_toArray, List.set_cons_zero, List.set_cons_succ])
        refine wpAnyH_take (i := 6) (oi := { dst := Option.some 84, op := Go.Op.call { callee := Go.Callee.builtin Go.Builtin.len, args := #[Go.Operand.tmp 83], argTypes := #[23] }, type := 3, pos := "law.go:107", after := #[{ on := 5, ground := Go.Ground.data }, { on := 3, ground := Go.Ground.guard }], guard := Option.some (3, Bool.false) }) (v := .int .i64 ((i : Int) + 1)) (by kernel_rfl) (by kernel_rfl) (by kernel_rfl) (by kernel_rfl) (fun _ _ _ h => h) (Or.inl ⟨by kernel_rfl, ?_⟩) hH0 ?_
        case refine_1 => (intro w' hS; (try dsimp only at hS); first | (go_simp; done) | (with_reducible rfl) | (go_simp; first | exact HI1.out | omega | exact IntWalk.i64_in _ (by omega)))
        (try simp only [Act.put, List.setIfInBounds_toArray, List.set_cons_zero, List.set_cons_succ])
        refine wpAnyH_take (i := 7) (oi := { dst := Option.some 85, op := Go.Op.binOp Go.BinOp.sub 3 (Go.Operand.tmp 84) (Go.Operand.const (Go.Value.int Go.IntKind.i64 1)) 3, type := 3, pos := "law.go:107", after := #[{ on := 6, ground := Go.Ground.data }, { on := 3, ground := Go.Ground.guard }], guard := Option.some (3, Bool.false) }) (v := .int .i64 (i : Int)) (by kernel_rfl) (by kernel_rfl) (by kernel_rfl) (by kernel_rfl) (fun _ _ _ h => h) (Or.inl ⟨by kernel_rfl, ?_⟩) hH0 ?_
        case refine_1 => (intro w' hS; (try dsimp only at hS); first | (go_simp; done) | (with_reducible rfl) | (go_simp; first | exact HI1.out | omega | exact IntWalk.i64_in _ (by omega)))
        (try simp only [Act.put, List.setIfInBounds_toArray, List.set_cons_zero, List.set_cons_succ])
        refine wpAnyH_take (i := 8) (oi := { dst := Option.some 86, op := Go.Op.slice 23 (Go.Operand.tmp 82) Option.none (Option.some (Go.Operand.tmp 85)) Option.none, type := 23, pos := "law.go:107", after := #[{ on := 4, ground := Go.Ground.data }, { on := 7, ground := Go.Ground.data }, { on := 3, ground := Go.Ground.guard }], guard := Option.some (3, Bool.false) }) (v := .slice (some ⟨g5, 0, none⟩) i cap5) (by kernel_rfl) (by kernel_rfl) (by kernel_rfl) (by kernel_rfl) (fun _ _ _ h => h) (Or.inl ⟨by kernel_rfl, ?_⟩) hH0 ?_
        case refine_1 => (intro w' hS; (try dsimp only at hS); first | (go_simp; done) | (with_reducible rfl) | (go_simp; first | exact HI1.out | omega | exact IntWalk.i64_in _ (by omega)))
        (try simp only [Act.put, List.setIfInBounds_toArray, List.set_cons_zero, List.set_cons_succ])
        refine wpAnyH_take (i := 9) (oi := { dst := Option.some 87, op := Go.Op.move (Go.Operand.tmp 5), type := 23, pos := "law.go:107", after := #[{ on := 3, ground := Go.Ground.guard }], guard := Option.some (3, Bool.false) }) (v := .slice (some ⟨g, 0, none⟩) N cap) (by kernel_rfl) (by kernel_rfl) (by kernel_rfl) (by kernel_rfl) (fun _ _ _ h => h) (Or.inl ⟨by kernel_rfl, ?_⟩) hH0 ?_
        case refine_1 => (intro w' hS; (try dsimp only at hS); first | (go_simp; done) | (with_reducible rfl) | (go_simp; first | exact HI1.out | omega | exact IntWalk.i64_in _ (by omega)))
        (try simp only [Act.put, List.setIfInBounds_toArray, List.set_cons_zero, List.set_cons_succ])
        refine wpAnyH_take (i := 10) (oi := { dst := Option.some 88, op := Go.Op.move (Go.Operand.tmp 7), type := 3, pos := "law.go:107", after := #[{ on := 3, ground := Go.Ground.guard }], guard := Option.some (3, Bool.false) }) (v := .int .i64 (i : Int)) (by kernel_rfl) (by kernel_rfl) (by kernel_rfl) (by kernel_rfl) (fun _ _ _ h => h) (Or.inl ⟨by kernel_rfl, ?_⟩) hH0 ?_
        case refine_1 => (intro w' hS; (try dsimp only at hS); first | (go_simp; done) | (with_reducible rfl) | (go_simp; first | exact HI1.out | omega | exact IntWalk.i64_in _ (by omega)))
        (try simp only [Act.put, List.setIfInBounds_toArray, List.set_cons_zero, List.set_cons_succ])
        refine wpAnyH_take (i := 11) (oi := { dst := Option.some 89, op := Go.Op.slice 23 (Go.Operand.tmp 87) Option.none (Option.some (Go.Operand.tmp 88)) Option.none, type := 23, pos := "law.go:107", after := #[{ on := 9, ground := Go.Ground.data }, { on := 10, ground := Go.Ground.data }, { on := 3, ground := Go.Ground.guard }], guard := Option.some (3, Bool.false) }) (v := .slice (some ⟨g, 0, none⟩) i cap) (by kernel_rfl) (by kernel_rfl) (by kernel_rfl) (by kernel_rfl) (fun _ _ _ h => h) (Or.inl ⟨by kernel_rfl, ?_⟩) hH0 ?_
        case refine_1 => (intro w' hS; (try dsimp only at hS); first | (go_simp; done) | (with_reducible rfl) | (go_simp; first | exact HI1.out | omega | exact IntWalk.i64_in _ (by omega)))
        (try simp only [Act.put, List.setIfInBounds_toArray, List.set_cons_zero, List.set_cons_succ])
        refine wpAnyH_ready (rs := [12]) (by kernel_rfl) (List.cons_ne_nil _ _) (AllReadyH.cons (o := { dst := Option.some 90, op := Go.Op.call { callee := Go.Callee.value (Go.Operand.func 12), args := #[Go.Operand.tmp 86, Go.Operand.tmp 89], argTypes := #[23, 23] }, type := 4, pos := "law.go:107", after := #[{ on := 8, ground := Go.Ground.data }, { on := 11, ground := Go.Ground.data }, { on := 3, ground := Go.Ground.chain }, { on := 3, ground := Go.Ground.guard }], guard := Option.some (3, Bool.false) }) (by kernel_rfl) (fun K hK => ?_) AllReadyH.nil)
        go_simp
        (refine (eq_take g5 g cap5 cap i l _ _ (by rw [HLN.out]; omega) HMT.out (by rw [HLN.out]; omega) hcap6 hcap2 (by simp only [sz_drew]; omega) (by simp only [sz_drew]; omega) (fun q u hq => (Q5.out q u hq)) (fun q u hq => (Q6.out q u hq))).mono ?_); (rintro e w7 ⟨rfl, hb7⟩); (have f5 : w7.cell? ⟨w5.heap.size, 1, none⟩ = some (.int .i64 0) := (hb7.cell (p := ⟨w5.heap.size, 1, none⟩) (by show w5.heap.size < W6.drew.heap.size; simp only [sz_drew]; omega)).trans e5); (have HL7 : Hid (Below w2.heap.size w2 w7) := Lib.hid (Below.trans (HL6.out.drew) (hb7.mono (by simp only [sz_drew]; omega)))); clear hb7
        refine hK.out _ _ f5 (fun hH1 => ?_)
        clear hK K hH0
        (try simp only [Act.put, List.setIfInBounds_toArray, List.set_cons_zero, List.set_cons_succ])
        refine wpAnyH_take (i := 13) (oi := { dst := Option.some 91, op := Go.Op.unOp Go.UnOp.not 4 (Go.Operand.tmp 90), type := 4, pos := "law.go:107", after := #[{ on := 12, ground := Go.Ground.data }, { on := 3, ground := Go.Ground.guard }], guard := Option.some (3, Bool.false) }) (v := .bool false) (by kernel_rfl) (by kernel_rfl) (by kernel_rfl) (by kernel_rfl) (fun _ _ _ h => h) (Or.inl ⟨by kernel_rfl, ?_⟩) hH1 ?_
        case refine_1 => (intro w' hS; (try dsimp only at hS); first | (go_simp; done) | (with_reducible rfl) | (go_simp; first | exact HI1.out | omega | exact IntWalk.i64_in _ (by omega)))
        (try simp only [Act.put, List.setIfInBounds_toArray, List.set_cons_zero, List.set_cons_succ])
        refine wpAnyH_take (i := 14) (oi := { dst := Option.some 92, op := Go.Op.pick (Go.Operand.tmp 81) (Go.Operand.const (Go.Value.bool Bool.true)) (Go.Operand.tmp 91), type := 4, pos := "law.go:107", after := #[{ on := 3, ground := Go.Ground.data }, { on := 13, ground := Go.Ground.data }], guard := Option.none }) (v := .bool false) (by kernel_rfl) (by kernel_rfl) (by kernel_rfl) (by kernel_rfl) (fun _ _ _ h => h) (Or.inl ⟨by kernel_rfl, ?_⟩) hH1 ?_
        case refine_1 => (intro w' hS; (try dsimp only at hS); first | (go_simp; done) | (with_reducible rfl) | (go_simp; first | exact HI1.out | omega | exact IntWalk.i64_in _ (by omega)))
        (try simp only [Act.put, List.setIfInBounds_toArray, List.set_cons_zero, List.set_cons_succ])
        refine wpAnyH_done (by kernel_rfl) ?_ _
        go_wp2_with fail
        go_roundw
        case rel => exact ⟨i + 1, hil, by go_num, HL7.out⟩
        case measure => simp [intOf]; omega
      · obtain ⟨j, hj⟩ : ∃ j, j + 1 = i := ⟨i - 1, by omega⟩
        obtain ⟨u, hu⟩ : ∃ u, l[j]? = some u := ⟨l[j]'(by rw [HLN.out]; omega), List.getElem?_eq_getElem (by rw [HLN.out]; omega)⟩
        obtain ⟨_, _, u3⟩ := sy_at l j u hu
        have hs := HS9.out
        have hlt := HPV.out u (by omega) (by rw [show i - 1 = j by omega]; exact hu)
        obtain ⟨uk, ux, up⟩ := u
        simp only at u3 hlt
        have U3 := Lib.hid u3
        have hle : decide ((b : Int) ≤ up) = false := decide_eq_false (by omega)
        have hgt : decide ((i : Int) > 0) = true := decide_eq_true (by omega)
        have hwj : IntKind.i64.wrap ((i : Int) - 1) = (j : Int) := by (have e : (i : Int) - 1 = (j : Int) := by omega); rw [e]; exact IntWalk.i64_in _ (by omega)
        have hj0 : j < N := by omega
        have HI1 : Hid (0 < i) := Lib.hid hi1
        clear hi1
        have hj1 : (j : Int) < (N : Int) := by omega
        have HJ := Lib.hid hj
        have e3 : W.drew.cell? ⟨g, j * 3 + 2, none⟩ = some (.int .i64 up) := ((HLW.out.drew).cell (p := ⟨g, j * 3 + 2, none⟩) hg).trans (HQ.out _ _ U3.out)
        clear hu u3 hlt hs hj
        refine wp_region_held_drew (S := (fun w' => w'.cell? ⟨wr.heap.size, 0, none⟩ = some (.int .i64 k) ∧ w'.cell? ⟨wr.heap.size, 1, none⟩ = some (.string x) ∧ w'.cell? ⟨wr.heap.size, 2, none⟩ = some (.int .i64 (b : Int)) ∧ w'.cell? ⟨g, j * 3 + 2, none⟩ = some (.int .i64 up))) (by kernel_rfl) ⟨e0, e1, e2, e3⟩ (fun hH0 => ?_)
        refine wpAnyH_take (i := 0) (oi := { dst := Option.some 35, op := Go.Op.load 31 (Go.Operand.tmp 8), type := 31, pos := "law.go:103", after := #[], guard := Option.none }) (v := .agg #[.int .i64 k, .string x, .int .i64 (b : Int)]) (by kernel_rfl) (by kernel_rfl) (by kernel_rfl) (by kernel_rfl) (fun _ _ _ h => h) (Or.inl ⟨by kernel_rfl, ?_⟩) hH0 ?_
        case refine_1 => (intro w' hS; (try dsimp only at hS); obtain ⟨hs0, hs1, hs2, hs3⟩ := hS; first | (go_simp; done) | (with_reducible rfl) | (go_simp; first | exact HI1.out | omega | exact IntWalk.i64_in _ (by omega)))
        (try simp only [Act.put, List.setIfInBounds_toArray, List.set_cons_zero, List.set_cons_succ])
        refine wpAnyH_ready (rs := [1]) (by kernel_rfl) (List.cons_ne_nil _ _) (AllReadyH.cons (o := { dst := Option.some 36, op := Go.Op.call { callee := Go.Callee.value (Go.Operand.func 14), args := #[Go.Operand.tmp 35], argTypes := #[31] }, type := 24, pos := "law.go:103", after := #[{ on := 0, ground := Go.Ground.data }], guard := Option.none }) (by kernel_rfl) (fun K hK => ?_) AllReadyH.nil)
        go_simp
        (refine (HC1.out _ (by repeat' (first | (with_reducible exact HB5.out) | (with_reducible exact HB4.out) | (with_reducible exact HBW.out) | (with_reducible exact HBR.out) | (with_reducible exact HB2.out) | (with_reducible exact HB1.out) | (with_reducible refine Below.alloc ?_ ?_ _) | (with_reducible refine Below.setCell ?_ ?_ _) | (with_reducible refine Below.drew ?_) | (with_reducible exact Nat.le_refl _) | omega | (simp; done) | (simp; omega)))).mono ?_); (rintro e w4 ⟨rfl, hb4⟩); (have hO4 := Own.kept (Own.drew HO1.out) hb4); (have f0 : w4.cell? ⟨wr.heap.size, 0, none⟩ = some (.int .i64 k) := Own.cell hO4 0); (have f1 : w4.cell? ⟨wr.heap.size, 1, none⟩ = some (.string x) := Own.cell hO4 1); (have f2 : w4.cell? ⟨wr.heap.size, 2, none⟩ = some (.int .i64 (b : Int)) := Own.cell hO4 2); (have hz4 := hb4.size); (try simp only [sz_drew] at hz4); (have f3 : w4.cell? ⟨g, j * 3 + 2, none⟩ = some (.int .i64 up) := ((Below.trans (HLW.out.drew) (hb4.mono (by first | omega | (simp; done) | (simp; omega)))).cell (p := ⟨g, j * 3 + 2, none⟩) hg).trans (HQ.out _ _ U3.out)); (have HL4 : Hid (Below w2.heap.size w2 w4) := Lib.hid (Below.trans (HLW.out.drew) (hb4.mono (by first | omega | (simp; done) | (simp; omega))))); (have HB4 : Hid (Below w.heap.size w w4) := Lib.hid (HB2.out.trans (HL4.out.mono (by omega)))); clear hb4 hO4
        refine hK.out _ _ ⟨f0, f1, f2, f3⟩ (fun hH1 => ?_)
        clear hK K hH0
        (try simp only [Act.put, List.setIfInBounds_toArray, List.set_cons_zero, List.set_cons_succ])
        refine wpAnyH_take (i := 2) (oi := { dst := Option.some 37, op := Go.Op.binOp Go.BinOp.neq 24 (Go.Operand.tmp 36) (Go.Operand.const (Go.Value.int Go.IntKind.i64 0)) 24, type := 4, pos := "law.go:103", after := #[{ on := 1, ground := Go.Ground.data }], guard := Option.none }) (v := .bool false) (by kernel_rfl) (by kernel_rfl) (by kernel_rfl) (by kernel_rfl) (fun _ _ _ h => h) (Or.inl ⟨by kernel_rfl, ?_⟩) hH1 ?_
        case refine_1 => (intro w' hS; (try dsimp only at hS); obtain ⟨hs0, hs1, hs2, hs3⟩ := hS; first | (go_simp; done) | (with_reducible rfl) | (go_simp; first | exact HI1.out | omega | exact IntWalk.i64_in _ (by omega)))
        (try simp only [Act.put, List.setIfInBounds_toArray, List.set_cons_zero, List.set_cons_succ])
        refine wpAnyH_take (i := 3) (oi := { dst := Option.some 38, op := Go.Op.move (Go.Operand.tmp 37), type := 4, pos := "law.go:103", after := #[{ on := 2, ground := Go.Ground.data }, { on := 1, ground := Go.Ground.chain }], guard := Option.none }) (v := .bool false) (by kernel_rfl) (by kernel_rfl) (by kernel_rfl) (by kernel_rfl) (fun _ _ _ h => h) (Or.inl ⟨by kernel_rfl, ?_⟩) hH1 ?_
        case refine_1 => (intro w' hS; (try dsimp only at hS); obtain ⟨hs0, hs1, hs2, hs3⟩ := hS; first | (go_simp; done) | (with_reducible rfl) | (go_simp; first | exact HI1.out | omega | exact IntWalk.i64_in _ (by omega)))
        (try simp only [Act.put, List.setIfInBounds_toArray, List.set_cons_zero, List.set_cons_succ])
        refine wpAnyH_take (i := 4) (oi := { dst := Option.some 39, op := Go.Op.move (Go.Operand.tmp 7), type := 3, pos := "law.go:103", after := #[{ on := 3, ground := Go.Ground.guard }], guard := Option.some (3, Bool.false) }) (v := .int .i64 (i : Int)) (by kernel_rfl) (by kernel_rfl) (by kernel_rfl) (by kernel_rfl) (fun _ _ _ h => h) (Or.inl ⟨by kernel_rfl, ?_⟩) hH1 ?_
        case refine_1 => (intro w' hS; (try dsimp only at hS); obtain ⟨hs0, hs1, hs2, hs3⟩ := hS; first | (go_simp; done) | (with_reducible rfl) | (go_simp; first | exact HI1.out | omega | exact IntWalk.i64_in _ (by omega)))
        (try simp only [Act.put, List.setIfInBounds_toArray, List.set_cons_zero, List.set_cons_succ])
        refine wpAnyH_take (i := 5) (oi := { dst := Option.some 40, op := Go.Op.binOp Go.BinOp.gtr 3 (Go.Operand.tmp 39) (Go.Operand.const (Go.Value.int Go.IntKind.i64 0)) 3, type := 4, pos := "law.go:103", after := #[{ on := 4, ground := Go.Ground.data }, { on := 3, ground := Go.Ground.guard }], guard := Option.some (3, Bool.false) }) (v := .bool true) (by kernel_rfl) (by kernel_rfl) (by kernel_rfl) (by kernel_rfl) (fun _ _ _ h => h) (Or.inl ⟨by kernel_rfl, ?_⟩) hH1 ?_
        case refine_1 => (intro w' hS; (try dsimp only at hS); obtain ⟨hs0, hs1, hs2, hs3⟩ := hS; first | (go_simp; done) | (with_reducible rfl) | (go_simp; first | exact HI1.out | omega | exact IntWalk.i64_in _ (by omega)))
        (try simp only [Act.put, List.setIfInBounds_toArray, List.set_cons_zero, List.set_cons_succ])
        refine wpAnyH_take (i := 6) (oi := { dst := Option.some 41, op := Go.Op.move (Go.Operand.tmp 40), type := 4, pos := "law.go:103", after := #[{ on := 5, ground := Go.Ground.data }, { on := 3, ground := Go.Ground.chain }, { on := 3, ground := Go.Ground.guard }], guard := Option.some (3, Bool.false) }) (v := .bool true) (by kernel_rfl) (by kernel_rfl) (by kernel_rfl) (by kernel_rfl) (fun _ _ _ h => h) (Or.inl ⟨by kernel_rfl, ?_⟩) hH1 ?_
        case refine_1 => (intro w' hS; (try dsimp only at hS); obtain ⟨hs0, hs1, hs2, hs3⟩ := hS; first | (go_simp; done) | (with_reducible rfl) | (go_simp; first | exact HI1.out | omega | exact IntWalk.i64_in _ (by omega)))
        (try simp only [Act.put, List.setIfInBounds_toArray, List.set_cons_zero, List.set_cons_succ])
        refine wpAnyH_take (i := 7) (oi := { dst := Option.some 42, op := Go.Op.fieldAddr 31 (Go.Operand.tmp 8) 2, type := 0, pos := "law.go:103", after := #[{ on := 6, ground := Go.Ground.guard }], guard := Option.some (6, Bool.true) }) (v := .pointer (some ⟨wr.heap.size, 2, none⟩)) (by kernel_rfl) (by kernel_rfl) (by kernel_rfl) (by kernel_rfl) (fun _ _ _ h => h) (Or.inl ⟨by kernel_rfl, ?_⟩) hH1 ?_
        case refine_1 => (intro w' hS; (try dsimp only at hS); obtain ⟨hs0, hs1, hs2, hs3⟩ := hS; first | (go_simp; done) | (with_reducible rfl) | (go_simp; first | exact HI1.out | omega | exact IntWalk.i64_in _ (by omega)))
        (try simp only [Act.put, List.setIfInBounds_toArray, List.set_cons_zero, List.set_cons_succ])
        refine wpAnyH_take (i := 8) (oi := { dst := Option.some 43, op := Go.Op.load 3 (Go.Operand.tmp 42), type := 3, pos := "law.go:103", after := #[{ on := 7, ground := Go.Ground.data }, { on := 6, ground := Go.Ground.guard }], guard := Option.some (6, Bool.true) }) (v := .int .i64 (b : Int)) (by kernel_rfl) (by kernel_rfl) (by kernel_rfl) (by kernel_rfl) (fun _ _ _ h => h) (Or.inl ⟨by kernel_rfl, ?_⟩) hH1 ?_
        case refine_1 => (intro w' hS; (try dsimp only at hS); obtain ⟨hs0, hs1, hs2, hs3⟩ := hS; first | (go_simp; done) | (with_reducible rfl) | (go_simp; first | exact HI1.out | omega | exact IntWalk.i64_in _ (by omega)))
        (try simp only [Act.put, List.setIfInBounds_toArray, List.set_cons_zero, List.set_cons_succ])
        refine wpAnyH_take (i := 9) (oi := { dst := Option.some 44, op := Go.Op.move (Go.Operand.tmp 5), type := 23, pos := "law.go:103", after := #[{ on := 6, ground := Go.Ground.guard }], guard := Option.some (6, Bool.true) }) (v := .slice (some ⟨g, 0, none⟩) N cap) (by kernel_rfl) (by kernel_rfl) (by kernel_rfl) (by kernel_rfl) (fun _ _ _ h => h) (Or.inl ⟨by kernel_rfl, ?_⟩) hH1 ?_
        case refine_1 => (intro w' hS; (try dsimp only at hS); obtain ⟨hs0, hs1, hs2, hs3⟩ := hS; first | (go_simp; done) | (with_reducible rfl) | (go_simp; first | exact HI1.out | omega | exact IntWalk.i64_in _ (by omega)))
        (try simp only [Act.put, List.setIfInBounds_toArray, List.set_cons_zero, List.set_cons_succ])
        refine wpAnyH_take (i := 10) (oi := { dst := Option.some 45, op := Go.Op.move (Go.Operand.tmp 7), type := 3, pos := "law.go:103", after := #[{ on := 6, ground := Go.Ground.guard }], guard := Option.some (6, Bool.true) }) (v := .int .i64 (i : Int)) (by kernel_rfl) (by kernel_rfl) (by kernel_rfl) (by kernel_rfl) (fun _ _ _ h => h) (Or.inl ⟨by kernel_rfl, ?_⟩) hH1 ?_
        case refine_1 => (intro w' hS; (try dsimp only at hS); obtain ⟨hs0, hs1, hs2, hs3⟩ := hS; first | (go_simp; done) | (with_reducible rfl) | (go_simp; first | exact HI1.out | omega | exact IntWalk.i64_in _ (by omega)))
        (try simp only [Act.put, List.setIfInBounds_toArray, List.set_cons_zero, List.set_cons_succ])
        refine wpAnyH_take (i := 11) (oi := { dst := Option.some 46, op := Go.Op.binOp Go.BinOp.sub 3 (Go.Operand.tmp 45) (Go.Operand.const (Go.Value.int Go.IntKind.i64 1)) 3, type := 3, pos := "law.go:103", after := #[{ on := 10, ground := Go.Ground.data }, { on := 6, ground := Go.Ground.guard }], guard := Option.some (6, Bool.true) }) (v := .int .i64 (j : Int)) (by kernel_rfl) (by kernel_rfl) (by kernel_rfl) (by kernel_rfl) (fun _ _ _ h => h) (Or.inl ⟨by kernel_rfl, ?_⟩) hH1 ?_
        case refine_1 => (intro w' hS; (try dsimp only at hS); obtain ⟨hs0, hs1, hs2, hs3⟩ := hS; first | (go_simp; done) | (with_reducible rfl) | (go_simp; first | exact HI1.out | omega | exact IntWalk.i64_in _ (by omega)))
        (try simp only [Act.put, List.setIfInBounds_toArray, List.set_cons_zero, List.set_cons_succ])
        refine wpAnyH_take (i := 12) (oi := { dst := Option.some 47, op := Go.Op.indexAddr 23 (Go.Operand.tmp 44) (Go.Operand.tmp 46), type := 0, pos := "law.go:103", after := #[{ on := 9, ground := Go.Ground.data }, { on := 11, ground := Go.Ground.data }, { on := 6, ground := Go.Ground.guard }], guard := Option.some (6, Bool.true) }) (v := .pointer (some ⟨g, j * 3, none⟩)) (by kernel_rfl) (by kernel_rfl) (by kernel_rfl) (by kernel_rfl) (fun _ _ _ h => h) (Or.inl ⟨by kernel_rfl, ?_⟩) hH1 ?_
        case refine_1 => (intro w' hS; (try dsimp only at hS); obtain ⟨hs0, hs1, hs2, hs3⟩ := hS; first | (go_simp; done) | (with_reducible rfl) | (go_simp; first | exact HI1.out | omega | exact IntWalk.i64_in _ (by omega)))
        (try simp only [Act.put, List.setIfInBounds_toArray, List.set_cons_zero, List.set_cons_succ])
        refine wpAnyH_take (i := 13) (oi := { dst := Option.some 48, op := Go.Op.fieldAddr 31 (Go.Operand.tmp 47) 2, type := 0, pos := "law.go:103", after := #[{ on := 12, ground := Go.Ground.data }, { on := 6, ground := Go.Ground.guard }], guard := Option.some (6, Bool.true) }) (v := .pointer (some ⟨g, j * 3 + 2, none⟩)) (by kernel_rfl) (by kernel_rfl) (by kernel_rfl) (by kernel_rfl) (fun _ _ _ h => h) (Or.inl ⟨by kernel_rfl, ?_⟩) hH1 ?_
        case refine_1 => (intro w' hS; (try dsimp only at hS); obtain ⟨hs0, hs1, hs2, hs3⟩ := hS; first | (go_simp; done) | (with_reducible rfl) | (go_simp; first | exact HI1.out | omega | exact IntWalk.i64_in _ (by omega)))
        (try simp only [Act.put, List.setIfInBounds_toArray, List.set_cons_zero, List.set_cons_succ])
        refine wpAnyH_take (i := 14) (oi := { dst := Option.some 49, op := Go.Op.load 3 (Go.Operand.tmp 48), type := 3, pos := "law.go:103", after := #[{ on := 13, ground := Go.Ground.data }, { on := 6, ground := Go.Ground.guard }], guard := Option.some (6, Bool.true) }) (v := .int .i64 up) (by kernel_rfl) (by kernel_rfl) (by kernel_rfl) (by kernel_rfl) (fun _ _ _ h => h) (Or.inl ⟨by kernel_rfl, ?_⟩) hH1 ?_
        case refine_1 => (intro w' hS; (try dsimp only at hS); obtain ⟨hs0, hs1, hs2, hs3⟩ := hS; first | (go_simp; done) | (with_reducible rfl) | (go_simp; first | exact HI1.out | omega | exact IntWalk.i64_in _ (by omega)))
        (try simp only [Act.put, List.setIfInBounds_toArray, List.set_cons_zero, List.set_cons_succ])
        refine wpAnyH_take (i := 15) (oi := { dst := Option.some 50, op := Go.Op.binOp Go.BinOp.leq 3 (Go.Operand.tmp 43) (Go.Operand.tmp 49) 3, type := 4, pos := "law.go:103", after := #[{ on := 8, ground := Go.Ground.data }, { on := 14, ground := Go.Ground.data }, { on := 6, ground := Go.Ground.guard }], guard := Option.some (6, Bool.true) }) (v := .bool false) (by kernel_rfl) (by kernel_rfl) (by kernel_rfl) (by kernel_rfl) (fun _ _ _ h => h) (Or.inl ⟨by kernel_rfl, ?_⟩) hH1 ?_
        case refine_1 => (intro w' hS; (try dsimp only at hS); obtain ⟨hs0, hs1, hs2, hs3⟩ := hS; first | (go_simp; done) | (with_reducible rfl) | (go_simp; first | exact HI1.out | omega | exact IntWalk.i64_in _ (by omega)))
        (try simp only [Act.put, List.setIfInBounds_toArray, List.set_cons_zero, List.set_cons_succ])
        refine wpAnyH_take (i := 16) (oi := { dst := Option.some 51, op := Go.Op.pick (Go.Operand.tmp 41) (Go.Operand.tmp 50) (Go.Operand.const (Go.Value.bool Bool.false)), type := 4, pos := "law.go:103", after := #[{ on := 6, ground := Go.Ground.data }, { on := 15, ground := Go.Ground.data }, { on := 3, ground := Go.Ground.guard }], guard := Option.some (3, Bool.false) }) (v := .bool false) (by kernel_rfl) (by kernel_rfl) (by kernel_rfl) (by kernel_rfl) (fun _ _ _ h => h) (Or.inl ⟨by kernel_rfl, ?_⟩) hH1 ?_
        case refine_1 => (intro w' hS; (try dsimp only at hS); obtain ⟨hs0, hs1, hs2, hs3⟩ := hS; first | (go_simp; done) | (with_reducible rfl) | (go_simp; first | exact HI1.out | omega | exact IntWalk.i64_in _ (by omega)))
        (try simp only [Act.put, List.setIfInBounds_toArray, List.set_cons_zero, List.set_cons_succ])
        refine wpAnyH_take (i := 17) (oi := { dst := Option.some 52, op := Go.Op.move (Go.Operand.tmp 51), type := 4, pos := "law.go:103", after := #[{ on := 16, ground := Go.Ground.data }, { on := 6, ground := Go.Ground.chain }, { on := 3, ground := Go.Ground.guard }], guard := Option.some (3, Bool.false) }) (v := .bool false) (by kernel_rfl) (by kernel_rfl) (by kernel_rfl) (by kernel_rfl) (fun _ _ _ h => h) (Or.inl ⟨by kernel_rfl, ?_⟩) hH1 ?_
        case refine_1 => (intro w' hS; (try dsimp only at hS); obtain ⟨hs0, hs1, hs2, hs3⟩ := hS; first | (go_simp; done) | (with_reducible rfl) | (go_simp; first | exact HI1.out | omega | exact IntWalk.i64_in _ (by omega)))
        (try simp only [Act.put, List.setIfInBounds_toArray, List.set_cons_zero, List.set_cons_succ])
        refine wpAnyH_take (i := 18) (oi := { dst := Option.some 53, op := Go.Op.fieldAddr 31 (Go.Operand.tmp 8) 0, type := 0, pos := "law.go:103", after := #[{ on := 17, ground := Go.Ground.guard }], guard := Option.some (17, Bool.true) }) (v := undef) (by kernel_rfl) (by kernel_rfl) (by kernel_rfl) (by kernel_rfl) (fun _ _ _ h => h) (Or.inr ⟨by kernel_rfl, rfl⟩) hH1 ?_
        (try simp only [Act.put, List.setIfInBounds_toArray, List.set_cons_zero, List.set_cons_succ])
        refine wpAnyH_take (i := 19) (oi := { dst := Option.some 54, op := Go.Op.load 3 (Go.Operand.tmp 53), type := 3, pos := "law.go:103", after := #[{ on := 18, ground := Go.Ground.data }, { on := 17, ground := Go.Ground.guard }], guard := Option.some (17, Bool.true) }) (v := undef) (by kernel_rfl) (by kernel_rfl) (by kernel_rfl) (by kernel_rfl) (fun _ _ _ h => h) (Or.inr ⟨by kernel_rfl, rfl⟩) hH1 ?_
        (try simp only [Act.put, List.setIfInBounds_toArray, List.set_cons_zero, List.set_cons_succ])
        refine wpAnyH_take (i := 20) (oi := { dst := Option.some 55, op := Go.Op.binOp Go.BinOp.neq 3 (Go.Operand.tmp 54) (Go.Operand.const (Go.Value.int Go.IntKind.i64 0)) 3, type := 4, pos := "law.go:103", after := #[{ on := 19, ground := Go.Ground.data }, { on := 17, ground := Go.Ground.guard }], guard := Option.some (17, Bool.true) }) (v := undef) (by kernel_rfl) (by kernel_rfl) (by kernel_rfl) (by kernel_rfl) (fun _ _ _ h => h) (Or.inr ⟨by kernel_rfl, rfl⟩) hH1 ?_
        (try simp only [Act.put, List.setIfInBounds_toArray, List.set_cons_zero, List.set_cons_succ])
        refine wpAnyH_take (i := 21) (oi := { dst := Option.some 56, op := Go.Op.pick (Go.Operand.tmp 52) (Go.Operand.tmp 55) (Go.Operand.const (Go.Value.bool Bool.false)), type := 4, pos := "law.go:103", after := #[{ on := 17, ground := Go.Ground.data }, { on := 20, ground := Go.Ground.data }, { on := 3, ground := Go.Ground.guard }], guard := Option.some (3, Bool.false) }) (v := .bool false) (by kernel_rfl) (by kernel_rfl) (by kernel_rfl) (by kernel_rfl) (fun _ _ _ h => h) (Or.inl ⟨by kernel_rfl, ?_⟩) hH1 ?_
        case refine_1 => (intro w' hS; (try dsimp only at hS); obtain ⟨hs0, hs1, hs2, hs3⟩ := hS; first | (go_simp; done) | (with_reducible rfl) | (go_simp; first | exact HI1.out | omega | exact IntWalk.i64_in _ (by omega)))
        (try simp only [Act.put, List.setIfInBounds_toArray, List.set_cons_zero, List.set_cons_succ])
        refine wpAnyH_take (i := 22) (oi := { dst := Option.some 57, op := Go.Op.pick (Go.Operand.tmp 38) (Go.Operand.const (Go.Value.bool Bool.true)) (Go.Operand.tmp 56), type := 4, pos := "law.go:103", after := #[{ on := 3, ground := Go.Ground.data }, { on := 21, ground := Go.Ground.data }], guard := Option.none }) (v := .bool false) (by kernel_rfl) (by kernel_rfl) (by kernel_rfl) (by kernel_rfl) (fun _ _ _ h => h) (Or.inl ⟨by kernel_rfl, ?_⟩) hH1 ?_
        case refine_1 => (intro w' hS; (try dsimp only at hS); obtain ⟨hs0, hs1, hs2, hs3⟩ := hS; first | (go_simp; done) | (with_reducible rfl) | (go_simp; first | exact HI1.out | omega | exact IntWalk.i64_in _ (by omega)))
        (try simp only [Act.put, List.setIfInBounds_toArray, List.set_cons_zero, List.set_cons_succ])
        refine wpAnyH_take (i := 23) (oi := { dst := Option.some 58, op := Go.Op.move (Go.Operand.tmp 57), type := 4, pos := "law.go:103", after := #[{ on := 22, ground := Go.Ground.data }, { on := 17, ground := Go.Ground.chain }], guard := Option.none }) (v := .bool false) (by kernel_rfl) (by kernel_rfl) (by kernel_rfl) (by kernel_rfl) (fun _ _ _ h => h) (Or.inl ⟨by kernel_rfl, ?_⟩) hH1 ?_
        case refine_1 => (intro w' hS; (try dsimp only at hS); obtain ⟨hs0, hs1, hs2, hs3⟩ := hS; first | (go_simp; done) | (with_reducible rfl) | (go_simp; first | exact HI1.out | omega | exact IntWalk.i64_in _ (by omega)))
        (try simp only [Act.put, List.setIfInBounds_toArray, List.set_cons_zero, List.set_cons_succ])
        refine wpAnyH_take (i := 24) (oi := { dst := Option.some 59, op := Go.Op.fieldAddr 31 (Go.Operand.tmp 8) 0, type := 0, pos := "law.go:103", after := #[{ on := 23, ground := Go.Ground.guard }], guard := Option.some (23, Bool.false) }) (v := .pointer (some ⟨wr.heap.size, 0, none⟩)) (by kernel_rfl) (by kernel_rfl) (by kernel_rfl) (by kernel_rfl) (fun _ _ _ h => h) (Or.inl ⟨by kernel_rfl, ?_⟩) hH1 ?_
        case refine_1 => (intro w' hS; (try dsimp only at hS); obtain ⟨hs0, hs1, hs2, hs3⟩ := hS; first | (go_simp; done) | (with_reducible rfl) | (go_simp; first | exact HI1.out | omega | exact IntWalk.i64_in _ (by omega)))
        (try simp only [Act.put, List.setIfInBounds_toArray, List.set_cons_zero, List.set_cons_succ])
        refine wpAnyH_take (i := 25) (oi := { dst := Option.some 60, op := Go.Op.load 3 (Go.Operand.tmp 59), type := 3, pos := "law.go:103", after := #[{ on := 24, ground := Go.Ground.data }, { on := 23, ground := Go.Ground.guard }], guard := Option.some (23, Bool.false) }) (v := .int .i64 k) (by kernel_rfl) (by kernel_rfl) (by kernel_rfl) (by kernel_rfl) (fun _ _ _ h => h) (Or.inl ⟨by kernel_rfl, ?_⟩) hH1 ?_
        case refine_1 => (intro w' hS; (try dsimp only at hS); obtain ⟨hs0, hs1, hs2, hs3⟩ := hS; first | (go_simp; done) | (with_reducible rfl) | (go_simp; first | exact HI1.out | omega | exact IntWalk.i64_in _ (by omega)))
        (try simp only [Act.put, List.setIfInBounds_toArray, List.set_cons_zero, List.set_cons_succ])
        refine wpAnyH_take (i := 26) (oi := { dst := Option.some 61, op := Go.Op.binOp Go.BinOp.eql 3 (Go.Operand.tmp 60) (Go.Operand.const (Go.Value.int Go.IntKind.i64 0)) 3, type := 4, pos := "law.go:103", after := #[{ on := 25, ground := Go.Ground.data }, { on := 23, ground := Go.Ground.guard }], guard := Option.some (23, Bool.false) }) (v := .bool D) (by kernel_rfl) (by kernel_rfl) (by kernel_rfl) (by kernel_rfl) (fun _ _ _ h => h) (Or.inl ⟨by kernel_rfl, ?_⟩) hH1 ?_
        case refine_1 => (intro w' hS; (try dsimp only at hS); obtain ⟨hs0, hs1, hs2, hs3⟩ := hS; first | (go_simp; done) | (with_reducible rfl) | (go_simp; first | exact HI1.out | omega | exact IntWalk.i64_in _ (by omega)))
        (try simp only [Act.put, List.setIfInBounds_toArray, List.set_cons_zero, List.set_cons_succ])
        refine wpAnyH_take (i := 27) (oi := { dst := Option.some 62, op := Go.Op.move (Go.Operand.tmp 7), type := 3, pos := "law.go:103", after := #[{ on := 23, ground := Go.Ground.guard }], guard := Option.some (23, Bool.false) }) (v := .int .i64 (i : Int)) (by kernel_rfl) (by kernel_rfl) (by kernel_rfl) (by kernel_rfl) (fun _ _ _ h => h) (Or.inl ⟨by kernel_rfl, ?_⟩) hH1 ?_
        case refine_1 => (intro w' hS; (try dsimp only at hS); obtain ⟨hs0, hs1, hs2, hs3⟩ := hS; first | (go_simp; done) | (with_reducible rfl) | (go_simp; first | exact HI1.out | omega | exact IntWalk.i64_in _ (by omega)))
        (try simp only [Act.put, List.setIfInBounds_toArray, List.set_cons_zero, List.set_cons_succ])
        refine wpAnyH_take (i := 28) (oi := { dst := Option.some 63, op := Go.Op.move (Go.Operand.tmp 5), type := 23, pos := "law.go:103", after := #[{ on := 23, ground := Go.Ground.guard }], guard := Option.some (23, Bool.false) }) (v := .slice (some ⟨g, 0, none⟩) N cap) (by kernel_rfl) (by kernel_rfl) (by kernel_rfl) (by kernel_rfl) (fun _ _ _ h => h) (Or.inl ⟨by kernel_rfl, ?_⟩) hH1 ?_
        case refine_1 => (intro w' hS; (try dsimp only at hS); obtain ⟨hs0, hs1, hs2, hs3⟩ := hS; first | (go_simp; done) | (with_reducible rfl) | (go_simp; first | exact HI1.out | omega | exact IntWalk.i64_in _ (by omega)))
        (try simp only [Act.put, List.setIfInBounds_toArray, List.set_cons_zero, List.set_cons_succ])
        refine wpAnyH_take (i := 29) (oi := { dst := Option.some 64, op := Go.Op.call { callee := Go.Callee.builtin Go.Builtin.len, args := #[Go.Operand.tmp 63], argTypes := #[23] }, type := 3, pos := "law.go:103", after := #[{ on := 28, ground := Go.Ground.data }, { on := 23, ground := Go.Ground.guard }], guard := Option.some (23, Bool.false) }) (v := .int .i64 (N : Int)) (by kernel_rfl) (by kernel_rfl) (by kernel_rfl) (by kernel_rfl) (fun _ _ _ h => h) (Or.inl ⟨by kernel_rfl, ?_⟩) hH1 ?_
        case refine_1 => (intro w' hS; (try dsimp only at hS); obtain ⟨hs0, hs1, hs2, hs3⟩ := hS; first | (go_simp; done) | (with_reducible rfl) | (go_simp; first | exact HI1.out | omega | exact IntWalk.i64_in _ (by omega)))
        (try simp only [Act.put, List.setIfInBounds_toArray, List.set_cons_zero, List.set_cons_succ])
        refine wpAnyH_take (i := 30) (oi := { dst := Option.some 65, op := Go.Op.binOp Go.BinOp.sub 3 (Go.Operand.tmp 64) (Go.Operand.const (Go.Value.int Go.IntKind.i64 1)) 3, type := 3, pos := "law.go:103", after := #[{ on := 29, ground := Go.Ground.data }, { on := 23, ground := Go.Ground.guard }], guard := Option.some (23, Bool.false) }) (v := .int .i64 (m : Int)) (by kernel_rfl) (by kernel_rfl) (by kernel_rfl) (by kernel_rfl) (fun _ _ _ h => h) (Or.inl ⟨by kernel_rfl, ?_⟩) hH1 ?_
        case refine_1 => (intro w' hS; (try dsimp only at hS); obtain ⟨hs0, hs1, hs2, hs3⟩ := hS; first | (go_simp; done) | (with_reducible rfl) | (go_simp; first | exact HI1.out | omega | exact IntWalk.i64_in _ (by omega)))
        (try simp only [Act.put, List.setIfInBounds_toArray, List.set_cons_zero, List.set_cons_succ])
        refine wpAnyH_take (i := 31) (oi := { dst := Option.some 66, op := Go.Op.binOp Go.BinOp.eql 3 (Go.Operand.tmp 62) (Go.Operand.tmp 65) 3, type := 4, pos := "law.go:103", after := #[{ on := 27, ground := Go.Ground.data }, { on := 30, ground := Go.Ground.data }, { on := 23, ground := Go.Ground.guard }], guard := Option.some (23, Bool.false) }) (v := .bool D) (by kernel_rfl) (by kernel_rfl) (by kernel_rfl) (by kernel_rfl) (fun _ _ _ h => h) (Or.inl ⟨by kernel_rfl, ?_⟩) hH1 ?_
        case refine_1 => (intro w' hS; (try dsimp only at hS); obtain ⟨hs0, hs1, hs2, hs3⟩ := hS; first | (go_simp; done) | (with_reducible rfl) | (go_simp; first | exact HI1.out | omega | exact IntWalk.i64_in _ (by omega)))
        (try simp only [Act.put, List.setIfInBounds_toArray, List.set_cons_zero, List.set_cons_succ])
        refine wpAnyH_take (i := 32) (oi := { dst := Option.some 67, op := Go.Op.binOp Go.BinOp.neq 4 (Go.Operand.tmp 61) (Go.Operand.tmp 66) 4, type := 4, pos := "law.go:103", after := #[{ on := 26, ground := Go.Ground.data }, { on := 31, ground := Go.Ground.data }, { on := 23, ground := Go.Ground.guard }], guard := Option.some (23, Bool.false) }) (v := .bool false) (by kernel_rfl) (by kernel_rfl) (by kernel_rfl) (by kernel_rfl) (fun _ _ _ h => h) (Or.inl ⟨by kernel_rfl, ?_⟩) hH1 ?_
        case refine_1 => (intro w' hS; (try dsimp only at hS); obtain ⟨hs0, hs1, hs2, hs3⟩ := hS; first | (go_simp; done) | (with_reducible rfl) | (go_simp; first | exact HI1.out | omega | exact IntWalk.i64_in _ (by omega)))
        (try simp only [Act.put, List.setIfInBounds_toArray, List.set_cons_zero, List.set_cons_succ])
        refine wpAnyH_take (i := 33) (oi := { dst := Option.some 68, op := Go.Op.pick (Go.Operand.tmp 58) (Go.Operand.const (Go.Value.bool Bool.true)) (Go.Operand.tmp 67), type := 4, pos := "law.go:103", after := #[{ on := 23, ground := Go.Ground.data }, { on := 32, ground := Go.Ground.data }], guard := Option.none }) (v := .bool false) (by kernel_rfl) (by kernel_rfl) (by kernel_rfl) (by kernel_rfl) (fun _ _ _ h => h) (Or.inl ⟨by kernel_rfl, ?_⟩) hH1 ?_
        case refine_1 => (intro w' hS; (try dsimp only at hS); obtain ⟨hs0, hs1, hs2, hs3⟩ := hS; first | (go_simp; done) | (with_reducible rfl) | (go_simp; first | exact HI1.out | omega | exact IntWalk.i64_in _ (by omega)))
        (try simp only [Act.put, List.setIfInBounds_toArray, List.set_cons_zero, List.set_cons_succ])
        refine wpAnyH_done (by kernel_rfl) ?_ _
        have hbi := HBI.out
        go_upto_region 14 with (go_at_call 10; (with_reducible refine (HS1.out _ (by repeat' (first | (with_reducible exact HB5.out) | (with_reducible exact HB4.out) | (with_reducible exact HBW.out) | (with_reducible exact HBR.out) | (with_reducible exact HB2.out) | (with_reducible exact HB1.out) | (with_reducible refine Below.alloc ?_ ?_ _) | (with_reducible refine Below.setCell ?_ ?_ _) | (with_reducible refine Below.drew ?_) | (with_reducible exact Nat.le_refl _) | omega | (simp; done) | (simp; omega))) _ ?_).mono ?_); (focus rfl); (rintro e w5 ⟨v5, rfl, hv5, hb5⟩); (obtain ⟨g5, cap5, rfl, hcap5, hg5, hq5⟩ := sl_len hv5 HML.out (Nat.succ_pos i)); (have hz5 := hb5.size); (have HQ5 := Lib.hid hq5); (have HL5 : Hid (Below w2.heap.size w2 w5) := Lib.hid (Below.trans HL4.out (hb5.mono (by omega)))); clear hv5 hb5 hq5)
        have e5 : (w5.alloc (.cells #[.int .i64 0, .int .i64 0] 26)).drew.cell? ⟨w5.heap.size, 1, none⟩ = some (.int .i64 0) := Own.cell (Own.drew (Own.new w5 26 [.int .i64 0, .int .i64 0])) 1
        have HL6 : Hid (Below w2.heap.size w2 (w5.alloc (.cells #[.int .i64 0, .int .i64 0] 26))) := Lib.hid (HL5.out.alloc (by omega) _)
        have Q5 : Hid (∀ q u, (sy (l.take i ++ ([(0, ⟨#[]⟩, (b : Int))] : List Sy)))[q]? = some u → (w5.alloc (.cells #[.int .i64 0, .int .i64 0] 26)).drew.cell? ⟨g5, q, none⟩ = some u) := Lib.hid (fun q u hq => ((((Below.refl w5.heap.size w5).alloc (Nat.le_refl _) (.cells #[.int .i64 0, .int .i64 0] 26)).drew).cell (p := ⟨g5, q, none⟩) hg5).trans (HQ5.out q u hq))
        have Q6 : Hid (∀ q u, (sy l)[q]? = some u → (w5.alloc (.cells #[.int .i64 0, .int .i64 0] 26)).drew.cell? ⟨g, q, none⟩ = some u) := Lib.hid (fun q u hq => ((HL6.out.drew).cell (p := ⟨g, q, none⟩) hg).trans (HQ.out q u hq))
        have hz6 : w5.heap.size + 1 ≤ (w5.alloc (.cells #[.int .i64 0, .int .i64 0] 26)).heap.size := by simp
        generalize (w5.alloc (.cells #[.int .i64 0, .int .i64 0] 26)) = W6 at *
        have hcap2 := HC2.out
        have hcap3 := HC3.out
        have hcap6 : i ≤ cap5 := by omega
        have hcap7 : (i : Int) ≤ (cap5 : Int) := by omega
        refine wp_region_held_drew (S := (fun w' => w'.cell? ⟨w5.heap.size, 1, none⟩ = some (.int .i64 0))) (by kernel_rfl) e5 (fun hH0 => ?_)
        refine wpAnyH_take (i := 0) (oi := { dst := Option.some 78, op := Go.Op.fieldAddr 26 (Go.Operand.tmp 10) 1, type := 0, pos := "law.go:107", after := #[], guard := Option.none }) (v := .pointer (some ⟨w5.heap.size, 1, none⟩)) (by kernel_rfl) (by kernel_rfl) (by kernel_rfl) (by kernel_rfl) (fun _ _ _ h => h) (Or.inl ⟨by kernel_rfl, ?_⟩) hH0 ?_
        case refine_1 => (intro w' hS; (try dsimp only at hS); first | (go_simp; done) | (with_reducible rfl) | (go_simp; first | exact HI1.out | omega | exact IntWalk.i64_in _ (by omega)))
        (try simp only [Act.put, List.setIfInBounds_toArray, List.set_cons_zero, List.set_cons_succ])
        refine wpAnyH_take (i := 1) (oi := { dst := Option.some 79, op := Go.Op.load 24 (Go.Operand.tmp 78), type := 24, pos := "law.go:107", after := #[{ on := 0, ground := Go.Ground.data }], guard := Option.none }) (v := .int .i64 0) (by kernel_rfl) (by kernel_rfl) (by kernel_rfl) (by kernel_rfl) (fun _ _ _ h => h) (Or.inl ⟨by kernel_rfl, ?_⟩) hH0 ?_
        case refine_1 => (intro w' hS; (try dsimp only at hS); first | (go_simp; done) | (with_reducible rfl) | (go_simp; first | exact HI1.out | omega | exact IntWalk.i64_in _ (by omega)))
        (try simp only [Act.put, List.setIfInBounds_toArray, List.set_cons_zero, List.set_cons_succ])
        refine wpAnyH_take (i := 2) (oi := { dst := Option.some 80, op := Go.Op.binOp Go.BinOp.neq 24 (Go.Operand.tmp 79) (Go.Operand.const (Go.Value.int Go.IntKind.i64 0)) 24, type := 4, pos := "law.go:107", after := #[{ on := 1, ground := Go.Ground.data }], guard := Option.none }) (v := .bool false) (by kernel_rfl) (by kernel_rfl) (by kernel_rfl) (by kernel_rfl) (fun _ _ _ h => h) (Or.inl ⟨by kernel_rfl, ?_⟩) hH0 ?_
        case refine_1 => (intro w' hS; (try dsimp only at hS); first | (go_simp; done) | (with_reducible rfl) | (go_simp; first | exact HI1.out | omega | exact IntWalk.i64_in _ (by omega)))
        (try simp only [Act.put, List.setIfInBounds_toArray, List.set_cons_zero, List.set_cons_succ])
        refine wpAnyH_take (i := 3) (oi := { dst := Option.some 81, op := Go.Op.move (Go.Operand.tmp 80), type := 4, pos := "law.go:107", after := #[{ on := 2, ground := Go.Ground.data }], guard := Option.none }) (v := .bool false) (by kernel_rfl) (by kernel_rfl) (by kernel_rfl) (by kernel_rfl) (fun _ _ _ h => h) (Or.inl ⟨by kernel_rfl, ?_⟩) hH0 ?_
        case refine_1 => (intro w' hS; (try dsimp only at hS); first | (go_simp; done) | (with_reducible rfl) | (go_simp; first | exact HI1.out | omega | exact IntWalk.i64_in _ (by omega)))
        (try simp only [Act.put, List.setIfInBounds_toArray, List.set_cons_zero, List.set_cons_succ])
        refine wpAnyH_take (i := 4) (oi := { dst := Option.some 82, op := Go.Op.move (Go.Operand.tmp 9), type := 23, pos := "law.go:107", after := #[{ on := 3, ground := Go.Ground.guard }], guard := Option.some (3, Bool.false) }) (v := .slice (some ⟨g5, 0, none⟩) (i + 1) cap5) (by kernel_rfl) (by kernel_rfl) (by kernel_rfl) (by kernel_rfl) (fun _ _ _ h => h) (Or.inl ⟨by kernel_rfl, ?_⟩) hH0 ?_
        case refine_1 => (intro w' hS; (try dsimp only at hS); first | (go_simp; done) | (with_reducible rfl) | (go_simp; first | exact HI1.out | omega | exact IntWalk.i64_in _ (by omega)))
        (try simp only [Act.put, List.setIfInBounds_toArray, List.set_cons_zero, List.set_cons_succ])
        refine wpAnyH_take (i := 5) (oi := { dst := Option.some 83, op := Go.Op.move (Go.Operand.tmp 9), type := 23, pos := "law.go:107", after := #[{ on := 3, ground := Go.Ground.guard }], guard := Option.some (3, Bool.false) }) (v := .slice (some ⟨g5, 0, none⟩) (i + 1) cap5) (by kernel_rfl) (by kernel_rfl) (by kernel_rfl) (by kernel_rfl) (fun _ _ _ h => h) (Or.inl ⟨by kernel_rfl, ?_⟩) hH0 ?_
        case refine_1 => (intro w' hS; (try dsimp only at hS); first | (go_simp; done) | (with_reducible rfl) | (go_simp; first | exact HI1.out | omega | exact IntWalk.i64_in _ (by omega)))
        (try simp only [Act.put, List.setIfInBounds_toArray, List.set_cons_zero, List.set_cons_succ])
        refine wpAnyH_take (i := 6) (oi := { dst := Option.some 84, op := Go.Op.call { callee := Go.Callee.builtin Go.Builtin.len, args := #[Go.Operand.tmp 83], argTypes := #[23] }, type := 3, pos := "law.go:107", after := #[{ on := 5, ground := Go.Ground.data }, { on := 3, ground := Go.Ground.guard }], guard := Option.some (3, Bool.false) }) (v := .int .i64 ((i : Int) + 1)) (by kernel_rfl) (by kernel_rfl) (by kernel_rfl) (by kernel_rfl) (fun _ _ _ h => h) (Or.inl ⟨by kernel_rfl, ?_⟩) hH0 ?_
        case refine_1 => (intro w' hS; (try dsimp only at hS); first | (go_simp; done) | (with_reducible rfl) | (go_simp; first | exact HI1.out | omega | exact IntWalk.i64_in _ (by omega)))
        (try simp only [Act.put, List.setIfInBounds_toArray, List.set_cons_zero, List.set_cons_succ])
        refine wpAnyH_take (i := 7) (oi := { dst := Option.some 85, op := Go.Op.binOp Go.BinOp.sub 3 (Go.Operand.tmp 84) (Go.Operand.const (Go.Value.int Go.IntKind.i64 1)) 3, type := 3, pos := "law.go:107", after := #[{ on := 6, ground := Go.Ground.data }, { on := 3, ground := Go.Ground.guard }], guard := Option.some (3, Bool.false) }) (v := .int .i64 (i : Int)) (by kernel_rfl) (by kernel_rfl) (by kernel_rfl) (by kernel_rfl) (fun _ _ _ h => h) (Or.inl ⟨by kernel_rfl, ?_⟩) hH0 ?_
        case refine_1 => (intro w' hS; (try dsimp only at hS); first | (go_simp; done) | (with_reducible rfl) | (go_simp; first | exact HI1.out | omega | exact IntWalk.i64_in _ (by omega)))
        (try simp only [Act.put, List.setIfInBounds_toArray, List.set_cons_zero, List.set_cons_succ])
        refine wpAnyH_take (i := 8) (oi := { dst := Option.some 86, op := Go.Op.slice 23 (Go.Operand.tmp 82) Option.none (Option.some (Go.Operand.tmp 85)) Option.none, type := 23, pos := "law.go:107", after := #[{ on := 4, ground := Go.Ground.data }, { on := 7, ground := Go.Ground.data }, { on := 3, ground := Go.Ground.guard }], guard := Option.some (3, Bool.false) }) (v := .slice (some ⟨g5, 0, none⟩) i cap5) (by kernel_rfl) (by kernel_rfl) (by kernel_rfl) (by kernel_rfl) (fun _ _ _ h => h) (Or.inl ⟨by kernel_rfl, ?_⟩) hH0 ?_
        case refine_1 => (intro w' hS; (try dsimp only at hS); first | (go_simp; done) | (with_reducible rfl) | (go_simp; first | exact HI1.out | omega | exact IntWalk.i64_in _ (by omega)))
        (try simp only [Act.put, List.setIfInBounds_toArray, List.set_cons_zero, List.set_cons_succ])
        refine wpAnyH_take (i := 9) (oi := { dst := Option.some 87, op := Go.Op.move (Go.Operand.tmp 5), type := 23, pos := "law.go:107", after := #[{ on := 3, ground := Go.Ground.guard }], guard := Option.some (3, Bool.false) }) (v := .slice (some ⟨g, 0, none⟩) N cap) (by kernel_rfl) (by kernel_rfl) (by kernel_rfl) (by kernel_rfl) (fun _ _ _ h => h) (Or.inl ⟨by kernel_rfl, ?_⟩) hH0 ?_
        case refine_1 => (intro w' hS; (try dsimp only at hS); first | (go_simp; done) | (with_reducible rfl) | (go_simp; first | exact HI1.out | omega | exact IntWalk.i64_in _ (by omega)))
        (try simp only [Act.put, List.setIfInBounds_toArray, List.set_cons_zero, List.set_cons_succ])
        refine wpAnyH_take (i := 10) (oi := { dst := Option.some 88, op := Go.Op.move (Go.Operand.tmp 7), type := 3, pos := "law.go:107", after := #[{ on := 3, ground := Go.Ground.guard }], guard := Option.some (3, Bool.false) }) (v := .int .i64 (i : Int)) (by kernel_rfl) (by kernel_rfl) (by kernel_rfl) (by kernel_rfl) (fun _ _ _ h => h) (Or.inl ⟨by kernel_rfl, ?_⟩) hH0 ?_
        case refine_1 => (intro w' hS; (try dsimp only at hS); first | (go_simp; done) | (with_reducible rfl) | (go_simp; first | exact HI1.out | omega | exact IntWalk.i64_in _ (by omega)))
        (try simp only [Act.put, List.setIfInBounds_toArray, List.set_cons_zero, List.set_cons_succ])
        refine wpAnyH_take (i := 11) (oi := { dst := Option.some 89, op := Go.Op.slice 23 (Go.Operand.tmp 87) Option.none (Option.some (Go.Operand.tmp 88)) Option.none, type := 23, pos := "law.go:107", after := #[{ on := 9, ground := Go.Ground.data }, { on := 10, ground := Go.Ground.data }, { on := 3, ground := Go.Ground.guard }], guard := Option.some (3, Bool.false) }) (v := .slice (some ⟨g, 0, none⟩) i cap) (by kernel_rfl) (by kernel_rfl) (by kernel_rfl) (by kernel_rfl) (fun _ _ _ h => h) (Or.inl ⟨by kernel_rfl, ?_⟩) hH0 ?_
        case refine_1 => (intro w' hS; (try dsimp only at hS); first | (go_simp; done) | (with_reducible rfl) | (go_simp; first | exact HI1.out | omega | exact IntWalk.i64_in _ (by omega)))
        (try simp only [Act.put, List.setIfInBounds_toArray, List.set_cons_zero, List.set_cons_succ])
        refine wpAnyH_ready (rs := [12]) (by kernel_rfl) (List.cons_ne_nil _ _) (AllReadyH.cons (o := { dst := Option.some 90, op := Go.Op.call { callee := Go.Callee.value (Go.Operand.func 12), args := #[Go.Operand.tmp 86, Go.Operand.tmp 89], argTypes := #[23, 23] }, type := 4, pos := "law.go:107", after := #[{ on := 8, ground := Go.Ground.data }, { on := 11, ground := Go.Ground.data }, { on := 3, ground := Go.Ground.chain }, { on := 3, ground := Go.Ground.guard }], guard := Option.some (3, Bool.false) }) (by kernel_rfl) (fun K hK => ?_) AllReadyH.nil)
        go_simp
        (refine (eq_take g5 g cap5 cap i l _ _ (by rw [HLN.out]; omega) HMT.out (by rw [HLN.out]; omega) hcap6 hcap2 (by simp only [sz_drew]; omega) (by simp only [sz_drew]; omega) (fun q u hq => (Q5.out q u hq)) (fun q u hq => (Q6.out q u hq))).mono ?_); (rintro e w7 ⟨rfl, hb7⟩); (have f5 : w7.cell? ⟨w5.heap.size, 1, none⟩ = some (.int .i64 0) := (hb7.cell (p := ⟨w5.heap.size, 1, none⟩) (by show w5.heap.size < W6.drew.heap.size; simp only [sz_drew]; omega)).trans e5); (have HL7 : Hid (Below w2.heap.size w2 w7) := Lib.hid (Below.trans (HL6.out.drew) (hb7.mono (by simp only [sz_drew]; omega)))); clear hb7
        refine hK.out _ _ f5 (fun hH1 => ?_)
        clear hK K hH0
        (try simp only [Act.put, List.setIfInBounds_toArray, List.set_cons_zero, List.set_cons_succ])
        refine wpAnyH_take (i := 13) (oi := { dst := Option.some 91, op := Go.Op.unOp Go.UnOp.not 4 (Go.Operand.tmp 90), type := 4, pos := "law.go:107", after := #[{ on := 12, ground := Go.Ground.data }, { on := 3, ground := Go.Ground.guard }], guard := Option.some (3, Bool.false) }) (v := .bool false) (by kernel_rfl) (by kernel_rfl) (by kernel_rfl) (by kernel_rfl) (fun _ _ _ h => h) (Or.inl ⟨by kernel_rfl, ?_⟩) hH1 ?_
        case refine_1 => (intro w' hS; (try dsimp only at hS); first | (go_simp; done) | (with_reducible rfl) | (go_simp; first | exact HI1.out | omega | exact IntWalk.i64_in _ (by omega)))
        (try simp only [Act.put, List.setIfInBounds_toArray, List.set_cons_zero, List.set_cons_succ])
        refine wpAnyH_take (i := 14) (oi := { dst := Option.some 92, op := Go.Op.pick (Go.Operand.tmp 81) (Go.Operand.const (Go.Value.bool Bool.true)) (Go.Operand.tmp 91), type := 4, pos := "law.go:107", after := #[{ on := 3, ground := Go.Ground.data }, { on := 13, ground := Go.Ground.data }], guard := Option.none }) (v := .bool false) (by kernel_rfl) (by kernel_rfl) (by kernel_rfl) (by kernel_rfl) (fun _ _ _ h => h) (Or.inl ⟨by kernel_rfl, ?_⟩) hH1 ?_
        case refine_1 => (intro w' hS; (try dsimp only at hS); first | (go_simp; done) | (with_reducible rfl) | (go_simp; first | exact HI1.out | omega | exact IntWalk.i64_in _ (by omega)))
        (try simp only [Act.put, List.setIfInBounds_toArray, List.set_cons_zero, List.set_cons_succ])
        refine wpAnyH_done (by kernel_rfl) ?_ _
        go_wp2_with fail
        go_roundw
        case rel => exact ⟨i + 1, hil, by go_num, HL7.out⟩
        case measure => simp [intOf]; omega
    · have hie : i = N := by omega
      subst hie
      obtain ⟨_, _, z3⟩ := sy_at l m _ HLA.out
      have b2 : wr.cell? ⟨g, m * 3 + 2, none⟩ = some (.int .i64 (t.size : Int)) := (HLR.out.cell (p := ⟨g, m * 3 + 2, none⟩) hg).trans (HQ.out _ _ z3)
      have hwn1 : IntKind.i64.wrap ((i : Int) - 1) = (m : Int) := by (have e : (i : Int) - 1 = (m : Int) := by have := HM.out; have := HPO.out; omega); rw [e]; exact IntWalk.i64_in _ (by have := HM.out; omega)
      have hm0 : decide ((i : Int) > 0) = true := decide_eq_true (by have := HPO.out; omega)
      have hm1 : m < i := by have := HM.out; have := HPO.out; omega
      have hm2 : (m : Int) < (i : Int) := by omega
      clear hb z3
      go_wp2_with fail
      go_returns
      exact ⟨rfl, HBR.out⟩
theorem StropAscends_walk (t : ByteArray) (r : Int) (w : World) (h : Wo w) : Calls Tryz.prog 6 #[.string t, .int .i64 r] w fun e w' => e = .returned (.bool true) ∧ Below w.heap.size w w' := by
  by_cases hn : t.size ≤ 300 ∧ (syF r t).2.1 = 0
  · exact as_run t r hn.1 hn.2 w h
  · exact as_out t r hn w h
end Go.Proofs.YtbnldpcbdeeflaaGreatDoor
