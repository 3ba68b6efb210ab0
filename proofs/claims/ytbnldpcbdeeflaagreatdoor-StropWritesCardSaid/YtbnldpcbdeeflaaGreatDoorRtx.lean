/- The reference's Text. Conditions: the list has few symbols with short texts; the reference's Check answers as the program's. -/
import Derived.Test.YtbnldpcbdeeflaaGreatDoorRw
namespace Go.Proofs.YtbnldpcbdeeflaaGreatDoor
open Go.ChangeShapes Go.WideShapes Go.ChangeAt Go.RowKit

theorem txR_skip {r : Int} {l : List Sy} : ∀ i, i ≤ l.length → (∀ j, j < i → (sA l j).1 ≠ 0 ∧ chF (sA l j).1 (sA l j).2.1 = 0) → txR r l 0 = txR r l i
  | 0, _, _ => rfl
  | i + 1, h, hj => by
    rw [txR_skip i (by omega) (fun j hlt => hj j (by omega)), tx_go (by omega) (hj i (by omega)).2 (hj i (by omega)).1]
theorem rtext_arg (v : Value) (r : Int) (w : World) (h : ¬ (0 ≤ r ∧ r ≤ 2)) :
    Calls Tryz.prog 17 #[v, .int .i64 r] w fun e w' => e = .returned (.tuple #[.string ⟨#[]⟩, .int .i64 1]) ∧ Below w.heap.size w w' := by
  have hx : decide (r < 0) = true ∨ (decide (r < 0) = false ∧ decide (r > 2) = true) := by
    simp only [decide_eq_true_eq, decide_eq_false_iff_not]
    omega
  clear h
  rcases hx with d2 | ⟨d2, d3⟩
  all_goals
    go_enter Tryz.func17, Tryz.ntmps17
    go_wp2_with fail
    go_returns
    exact ⟨rfl, (by repeat' (first | (with_reducible assumption) | (with_reducible exact Below.refl _ _) | (with_reducible refine Below.alloc ?_ ?_ _) | (with_reducible refine Below.setCell ?_ ?_ _) | (with_reducible refine Below.drew ?_) | (with_reducible refine Below.call ?_ ?_ (by assumption)) | (with_reducible exact Nat.le_refl _) | omega | (simp; done) | (simp; omega)))⟩
theorem rtext_none (v : Value) (hv : v = .slice none 0 0 ∨ ∃ a cap, v = .slice (some a) 0 cap) (r : Int) (w : World) (h : 0 ≤ r ∧ r ≤ 2) :
    Calls Tryz.prog 17 #[v, .int .i64 r] w fun e w' => e = .returned (.tuple #[.string ⟨#[]⟩, .int .i64 0]) ∧ Below w.heap.size w w' := by
  have d1 : decide (r < 0) = false := decide_eq_false (by omega)
  have d2 : decide (r > 2) = false := decide_eq_false (by omega)
  clear h
  rcases hv with rfl | ⟨a, cap, rfl⟩
  all_goals
    go_enter Tryz.func17, Tryz.ntmps17
    go_wp2_with fail
    go_loopw [6] (fun v6 wr => v6 = .int .i64 0 ∧ Below w.heap.size w wr) (fun _ _ => 0)
    case atStart => exact ⟨rfl, Below.refl _ _⟩
    case round =>
      obtain ⟨rfl, hb1⟩ := hrel
      have HB1 := Lib.hid hb1
      clear hb1
      go_wp2_with fail
      go_loopw [7] (fun v7 wr => v7 = .int .i64 0 ∧ Below w.heap.size w wr) (fun _ _ => 0)
      case atStart => exact ⟨rfl, HB1.out⟩
      case round =>
        obtain ⟨rfl, hb2⟩ := hrel
        have HB2 := Lib.hid hb2
        clear hb2
        go_wp2_with fail
        go_loopw [9, 10] (fun v9 v10 wr => v9 = .string ⟨#[]⟩ ∧ v10 = .int .i64 0 ∧ Below w.heap.size w wr) (fun _ _ _ => 0)
        case atStart => exact ⟨rfl, rfl, HB2.out⟩
        case round =>
          obtain ⟨rfl, rfl, hb3⟩ := hrel
          have HB3 := Lib.hid hb3
          clear hb3
          go_wp2_with fail
          go_returns
          exact ⟨rfl, HB3.out⟩
set_option maxRecDepth 100000 in
set_option maxHeartbeats 16000000 in
theorem rtext_off (g o cap : Nat) (l : List Sy) (r : Int) (w : World) (HRC : ∀ (k : Int) (x : ByteArray) (p : Int) (W : World), x.size ≤ 400 → Calls Tryz.prog 15 #[.agg #[.int .i64 k, .string x, .int .i64 p]] W fun e w' => e = .returned (.int .i64 (chF k x)) ∧ Below W.heap.size W w') (hr : 0 ≤ r ∧ r ≤ 2) (hn : l.length ≤ 1000) (hzs : ∀ s ∈ l, s.2.1.size ≤ 400) (hlt : ∀ i, i ≤ l.length → (txB r l i).length ≤ 60000) (hcap : l.length ≤ cap) (hg2 : g < w.heap.size) (hgc : ∀ j u, (sy l)[j]? = some u → w.cell? ⟨g, o + j, none⟩ = some u) :
    Calls Tryz.prog 17 #[.slice (some ⟨g, o, none⟩) l.length cap, .int .i64 r] w fun e w' => e = .returned (.tuple #[.string (txR r l 0).1, .int .i64 (txR r l 0).2]) ∧ Below w.heap.size w w' := by
  obtain ⟨R, hR⟩ : ∃ R, txR r l 0 = R := ⟨_, rfl⟩
  rw [hR]
  have HR := Lib.hid hR
  have HC := Lib.hid HRC
  have HGC := Lib.hid hgc
  have HZS := Lib.hid hzs
  have HLT := Lib.hid hlt
  have HRR := Lib.hid hr
  have d1 : decide (r < 0) = false := decide_eq_false (by omega)
  have d2 : decide (r > 2) = false := decide_eq_false (by omega)
  clear hR HRC hgc hzs hlt hr
  go_enter Tryz.func17, Tryz.ntmps17
  go_wp2_with fail
  go_loopw [6] (fun v6 wr => ∃ n : Nat, n ≤ l.length ∧ v6 = .int .i64 n ∧ Below w.heap.size w wr ∧ ∀ j, j < n → (sA l j).1 ≠ 0) (fun v6 _ => l.length - (intOf v6).toNat)
  case atStart => exact ⟨0, Nat.zero_le _, rfl, Below.refl _ _, fun j hj => absurd hj (Nat.not_lt_zero _)⟩
  case round =>
    obtain ⟨n, hnl, rfl, hb0, hk0⟩ := hrel
    have HB0 := Lib.hid hb0
    clear hb0
    have HK0 := Lib.hid hk0
    clear hk0
    by_cases hgo : n < l.length ∧ (sA l n).1 ≠ 0
    · obtain ⟨hil, hk⟩ := hgo
      obtain ⟨s, hs⟩ : ∃ s, l[n]? = some s := ⟨l[n], List.getElem?_eq_getElem hil⟩
      rw [sA_eq hs] at hk
      obtain ⟨s1, _, _⟩ := sy_at l n s hs
      have a0 : wr.cell? ⟨g, o + n * 3, none⟩ = some (.int .i64 s.1) := (HB0.out.cell (p := ⟨g, o + n * 3, none⟩) hg2).trans (HGC.out _ _ s1)
      have hb : (s.1 != 0) = true := by rw [bne_iff_ne]; exact hk
      have HK1 : Hid (∀ j, j < n + 1 → (sA l j).1 ≠ 0) := Lib.hid (fun j hj => by
        rcases Nat.lt_or_ge j n with h | h
        · exact HK0.out j h
        · have : j = n := by omega
          subst this; rw [sA_eq hs]; exact hk)
      obtain ⟨k, x, p⟩ := s
      simp only at a0 hb
      clear hs s1 hk
      go_wp2_with fail
      go_roundw
      case rel => exact ⟨n + 1, hil, by go_num, HB0.out, HK1.out⟩
      case measure => simp [intOf]; omega
    · have hex : n = l.length ∨ (n < l.length ∧ (sA l n).1 = 0) := by
        by_cases hil : n < l.length
        · refine Or.inr ⟨hil, ?_⟩
          by_cases hk : (sA l n).1 = 0
          · exact hk
          · exact absurd ⟨hil, hk⟩ hgo
        · exact Or.inl (by omega)
      have HEX := Lib.hid hex
      have hcase : (n = l.length) ∨ (n < l.length ∧ ∃ x p, wr.cell? ⟨g, o + n * 3, none⟩ = some (.int .i64 0) ∧ l[n]? = some (0, x, p)) := by
        rcases hex with h | ⟨h, hk⟩
        · exact Or.inl h
        · obtain ⟨s, hs⟩ : ∃ s, l[n]? = some s := ⟨l[n], List.getElem?_eq_getElem h⟩
          rw [sA_eq hs] at hk
          obtain ⟨s1, _, _⟩ := sy_at l n s hs
          rw [hk] at s1
          exact Or.inr ⟨h, s.2.1, s.2.2, (HB0.out.cell (p := ⟨g, o + n * 3, none⟩) hg2).trans (HGC.out _ _ s1), by rw [hs]; exact congrArg some (Prod.ext hk rfl)⟩
      clear hgo hex
      have hn9 : (n : Int) ≤ (l.length : Int) := by omega
      rcases hcase with hnn | ⟨hnn, x0, p0, a0, hs0⟩
      · subst hnn
        clear hn9 hnl
        go_wp2_with fail
        go_loopw [7] (fun v7 wr => ∃ i : Nat, i ≤ l.length ∧ i ≤ l.length + 1 ∧ v7 = .int .i64 i ∧ Below w.heap.size w wr ∧ ∀ j, j < i → chF (sA l j).1 (sA l j).2.1 = 0) (fun v7 _ => l.length - (intOf v7).toNat)
        case atStart => exact ⟨0, Nat.zero_le _, Nat.zero_le _, rfl, HB0.out, fun j hj => absurd hj (Nat.not_lt_zero _)⟩
        case round =>
          obtain ⟨i, hil, hin, rfl, hb2, hch⟩ := hrel
          have HB2 := Lib.hid hb2
          have HCH := Lib.hid hch
          clear hch
          by_cases hgo : i < l.length ∧ i ≤ l.length
          · obtain ⟨hil2, hin2⟩ := hgo
            obtain ⟨s, hs⟩ : ∃ s, l[i]? = some s := ⟨l[i], List.getElem?_eq_getElem hil2⟩
            have hsa := sA_eq hs
            have hxz := HZS.out s (List.mem_of_getElem? hs)
            obtain ⟨s1, s2, s3⟩ := sy_at l i s hs
            have b0 : wr.cell? ⟨g, o + i * 3, none⟩ = some (.int .i64 s.1) := (hb2.cell (p := ⟨g, o + i * 3, none⟩) hg2).trans (HGC.out _ _ s1)
            have b1 : wr.cell? ⟨g, o + i * 3 + 1, none⟩ = some (.string s.2.1) := (hb2.cell (p := ⟨g, o + i * 3 + 1, none⟩) hg2).trans (HGC.out _ _ s2)
            have b2 : wr.cell? ⟨g, o + i * 3 + 2, none⟩ = some (.int .i64 s.2.2) := (hb2.cell (p := ⟨g, o + i * 3 + 2, none⟩) hg2).trans (HGC.out _ _ s3)
            have HC1 := Lib.hid (fun (W : World) => HC.out s.1 s.2.1 s.2.2 W hxz)
            have hii : decide ((i : Int) ≤ (l.length : Int)) = true := decide_eq_true (by omega)
            have hii2 : decide (i ≤ l.length) = true := decide_eq_true hin2
            by_cases hc : chF s.1 s.2.1 = 0
            · rw [hc] at HC1
              have HCH1 : Hid (∀ j, j < i + 1 → chF (sA l j).1 (sA l j).2.1 = 0) := Lib.hid (fun j hj => by
                rcases Nat.lt_or_ge j i with h | h
                · exact HCH.out j h
                · have : j = i := by omega
                  subst this; rw [hsa]; exact hc)
              obtain ⟨k, x, p⟩ := s
              simp only at b0 b1 b2 HC1
              clear hb2 hs hsa s1 s2 s3 hc
              go_wp2_with (go_at_call 15; (with_reducible refine (HC1.out _).mono ?_); (rintro e w4 ⟨rfl, hb4⟩); (have HB4 := Lib.hid (HB2.out.trans (hb4.mono HB2.out.size))); clear hb4)
              go_roundw
              case rel => exact ⟨i + 1, hil2, by omega, by go_num, HB4.out, HCH1.out⟩
              case measure => simp [intOf]; omega
            · have hRb : R = (⟨#[]⟩, chF s.1 s.2.1) := by
                rw [← HR.out, txR_skip i hil (fun j hj => ⟨HK0.out j (by omega), HCH.out j hj⟩), tx_bad hil2 (by rw [hsa]; exact hc), hsa]
              have hcb : (chF s.1 s.2.1 != 0) = true := by rw [bne_iff_ne]; exact hc
              have HRB := Lib.hid hRb
              obtain ⟨k, x, p⟩ := s
              simp only at b0 b1 b2 HC1 hcb HRB
              obtain ⟨z, hz⟩ : ∃ z, chF k x = z := ⟨_, rfl⟩
              rw [hz] at HC1 hcb HRB
              clear hb2 hs hsa s1 s2 s3 hc hz hRb
              go_wp2_with (go_at_call 15; (with_reducible refine (HC1.out _).mono ?_); (rintro e w4 ⟨rfl, hb4⟩); (have HB4 := Lib.hid (HB2.out.trans (hb4.mono HB2.out.size))); clear hb4)
              go_returns
              rw [HRB.out]
              exact ⟨rfl, HB4.out⟩
          · have hRn : R = (⟨(txB r l l.length).toArray⟩, 0) := by
              have hch := HCH.out
              have hk0 := HK0.out
              rcases HEX.out with h | ⟨h, hk⟩
              · rw [← HR.out, txR_skip l.length (Nat.le_refl _) (fun j hj => ⟨hk0 j (by omega), hch j (by omega)⟩), tx_all (Nat.le_refl _)]
              · rw [← HR.out, txR_skip l.length (by omega) (fun j hj => ⟨hk0 j hj, hch j (by omega)⟩), tx_end h (hch l.length (by omega)) hk]
            have HRN := Lib.hid hRn
            have hor : i = l.length ∨ ¬ i ≤ l.length ∧ i < l.length := by
              by_cases h : i < l.length
              · exact Or.inr ⟨fun hh => hgo ⟨h, hh⟩, h⟩
              · exact Or.inl (by omega)
            clear hgo hRn hb2
            rcases hor with ho | ⟨ho3, ho4⟩
            · have hx1 : decide ((l.length : Int) < (l.length : Int)) = false := decide_eq_false (by omega)
              subst ho
              go_wp2_with fail
              go_loopw [9, 10] (fun v9 v10 wr => ∃ q : Nat, q ≤ l.length ∧ v10 = .int .i64 q ∧ v9 = .string ⟨(txB r l q).toArray⟩ ∧ Below w.heap.size w wr) (fun _ v10 _ => l.length - (intOf v10).toNat)
              case atStart => exact ⟨0, Nat.zero_le _, rfl, rfl, HB2.out⟩
              case round =>
                obtain ⟨q, hqn, rfl, rfl, hb3⟩ := hrel
                have HB3 := Lib.hid hb3
                have hgr : g < wr.heap.size := Nat.lt_of_lt_of_le hg2 hb3.size
                have hLz := HLT.out q (by omega)
                by_cases hqn2 : q < l.length
                · obtain ⟨s, hs⟩ : ∃ s, l[q]? = some s := ⟨l[q]'(by omega), List.getElem?_eq_getElem (by omega)⟩
                  have hsa := sA_eq hs
                  have hxz := HZS.out s (List.mem_of_getElem? hs)
                  obtain ⟨s1, s2, s3⟩ := sy_at l q s hs
                  have b0 : wr.cell? ⟨g, o + q * 3, none⟩ = some (.int .i64 s.1) := (hb3.cell (p := ⟨g, o + q * 3, none⟩) hg2).trans (HGC.out _ _ s1)
                  have b1 : wr.cell? ⟨g, o + q * 3 + 1, none⟩ = some (.string s.2.1) := (hb3.cell (p := ⟨g, o + q * 3 + 1, none⟩) hg2).trans (HGC.out _ _ s2)
                  have b2 : wr.cell? ⟨g, o + q * 3 + 2, none⟩ = some (.int .i64 s.2.2) := (hb3.cell (p := ⟨g, o + q * 3 + 2, none⟩) hg2).trans (HGC.out _ _ s3)
                  have HW := Lib.hid (fun (W : World) => rwritten_any s.1 s.2.1 s.2.2 r W (by omega) HRR.out)
                  have HJ1 := Lib.hid (fun (W : World) => rjoined_any s.1 s.2.1 s.2.2 W)
                  have hyz := wrF_size s.1 r s.2.1
                  obtain ⟨k, x, p⟩ := s
                  simp only at b0 b1 b2 HW HJ1 hyz hxz
                  obtain ⟨Y, hY⟩ : ∃ Y, wrF k r x = Y := ⟨_, rfl⟩
                  rw [hY] at HW hyz
                  generalize hO : (⟨(txB r l q).toArray⟩ : ByteArray) = O
                  have hOz : O.size ≤ 60000 := by rw [← hO]; show (txB r l q).toArray.size ≤ 60000; rw [List.size_toArray]; exact hLz
                  have hOl : O.data.toList = txB r l q := by rw [← hO]
                  have hYz : Y.size ≤ 1000 := by omega
                  have hql : (q : Int) < (l.length : Int) := by omega
                  have hqd : decide ((q : Int) < (l.length : Int)) = true := decide_eq_true hql
                  have hqlen : q < l.length := by omega
                  clear hb3 s1 s2 s3 hs hyz hxz hO
                  rcases (by omega : q = 0 ∨ 1 ≤ q) with hq0 | hq0
                  · have HT : Hid ((O ++ Y : ByteArray) = ⟨(txB r l (q + 1)).toArray⟩) := Lib.hid (by
                      subst hq0
                      refine ByteArray.ext (Array.toList_inj.1 ?_)
                      rw [ByteArray.data_append, Array.toList_append, hOl, txB_one, hsa, ← hY]
                      rfl)
                    have hgt : decide ((q : Int) > 0) = false := decide_eq_false (by omega)
                    have hgt2 : decide (0 < q) = false := decide_eq_false (by omega)
                    have hq1 : decide (((O ++ Y : ByteArray).size : Int) > 65536) = false := decide_eq_false (by simp only [ByteArray.size_append]; omega)
                    have hq2 : decide (65536 < ((O ++ Y : ByteArray).size : Int)) = false := decide_eq_false (by simp only [ByteArray.size_append]; omega)
                    have hq3 : decide ((O.size : Int) + (Y.size : Int) > 65536) = false := decide_eq_false (by omega)
                    have hq4 : decide (65536 < (O.size : Int) + (Y.size : Int)) = false := decide_eq_false (by omega)
                    have hq5 : (O ++ Y : ByteArray).size ≤ 65000 := by simp only [ByteArray.size_append]; omega
                    have HQ0 := Lib.hid hq0
                    clear hq0 hOl hsa hY hLz hqn
                    go_wp2_with (first | (go_at_call 25; (with_reducible refine (HW.out _).mono ?_); (rintro e w4 ⟨rfl, hb4⟩); (have HB4 : Hid (Below w.heap.size w w4) := Lib.hid (HB3.out.trans (hb4.mono HB3.out.size))); clear hb4))
                    go_roundw
                    case rel => exact ⟨q + 1, hqn2, by go_num, by rw [HT.out], HB4.out⟩
                    case measure => simp [intOf]; omega
                  · obtain ⟨j, hj⟩ : ∃ j, j + 1 = q := ⟨q - 1, by omega⟩
                    obtain ⟨s0, hs0⟩ : ∃ s, l[j]? = some s := ⟨l[j]'(by omega), List.getElem?_eq_getElem (by omega)⟩
                    have hsa0 := sA_eq hs0
                    obtain ⟨t1, t2, t3⟩ := sy_at l j s0 hs0
                    have p0 : wr.cell? ⟨g, o + j * 3, none⟩ = some (.int .i64 s0.1) := (HB3.out.cell (p := ⟨g, o + j * 3, none⟩) hg2).trans (HGC.out _ _ t1)
                    have p1 : wr.cell? ⟨g, o + j * 3 + 1, none⟩ = some (.string s0.2.1) := (HB3.out.cell (p := ⟨g, o + j * 3 + 1, none⟩) hg2).trans (HGC.out _ _ t2)
                    have p2 : wr.cell? ⟨g, o + j * 3 + 2, none⟩ = some (.int .i64 s0.2.2) := (HB3.out.cell (p := ⟨g, o + j * 3 + 2, none⟩) hg2).trans (HGC.out _ _ t3)
                    have HJ0 := Lib.hid (fun (W : World) => rjoined_any s0.1 s0.2.1 s0.2.2 W)
                    obtain ⟨k0, x0, z0⟩ := s0
                    simp only at p0 p1 p2 HJ0
                    have hTX : txB r l (q + 1) = txB r l q ++ (spF k0 k).data.toList ++ Y.data.toList := by
                      subst hj
                      rw [txB_more, hsa, hsa0, hY]
                    have hgt : decide ((q : Int) > 0) = true := decide_eq_true (by omega)
                    have hgt2 : decide (0 < q) = true := decide_eq_true (by omega)
                    have hgt3 : 0 < q := by omega
                    have hwj : IntKind.i64.wrap ((q : Int) - 1) = (j : Int) := by (have e : (q : Int) - 1 = (j : Int) := by omega); rw [e]; exact IntWalk.i64_in _ (by omega)
                    have hj0 : j < l.length := by omega
                    have hj1 : (j : Int) < (l.length : Int) := by omega
                    by_cases hop : opn k0 = true ∧ opn k = true
                    · have hsp : spF k0 k = ⟨#[32, 35, 35, 32]⟩ := by unfold spF; rw [if_pos hop]
                      have HT : Hid ((O ++ ⟨#[32]⟩ ++ ⟨#[35, 35, 32]⟩ ++ Y : ByteArray) = ⟨(txB r l (q + 1)).toArray⟩) := Lib.hid (by
                        refine ByteArray.ext (Array.toList_inj.1 ?_)
                        rw [ByteArray.data_append, ByteArray.data_append, ByteArray.data_append, Array.toList_append, Array.toList_append, Array.toList_append, hOl, hTX, hsp]
                        simp)
                      have hq1 : decide (((O ++ ⟨#[32]⟩ ++ ⟨#[35, 35, 32]⟩ ++ Y : ByteArray).size : Int) > 65536) = false := decide_eq_false (by simp only [ByteArray.size_append]; have hz1 : (ByteArray.mk #[32]).size = 1 := rfl; have hz3 : (ByteArray.mk #[35, 35, 32]).size = 3 := rfl; omega)
                      have hq2 : decide (65536 < ((O ++ ⟨#[32]⟩ ++ ⟨#[35, 35, 32]⟩ ++ Y : ByteArray).size : Int)) = false := decide_eq_false (by simp only [ByteArray.size_append]; have hz1 : (ByteArray.mk #[32]).size = 1 := rfl; have hz3 : (ByteArray.mk #[35, 35, 32]).size = 3 := rfl; omega)
                      have hq3 : decide ((O.size : Int) + 1 + 3 + (Y.size : Int) > 65536) = false := decide_eq_false (by omega)
                      have hq4 : decide (65536 < (O.size : Int) + 1 + 3 + (Y.size : Int)) = false := decide_eq_false (by omega)
                      have hq5 : (O ++ ⟨#[32]⟩ ++ ⟨#[35, 35, 32]⟩ ++ Y : ByteArray).size ≤ 65000 := by simp only [ByteArray.size_append]; have hz1 : (ByteArray.mk #[32]).size = 1 := rfl; have hz3 : (ByteArray.mk #[35, 35, 32]).size = 3 := rfl; omega
                      have hq6 : (O ++ ⟨#[32]⟩ : ByteArray).size ≤ 61000 := by simp only [ByteArray.size_append]; have hz1 : (ByteArray.mk #[32]).size = 1 := rfl; omega
                      have hq7 : (O ++ ⟨#[32]⟩ ++ ⟨#[35, 35, 32]⟩ : ByteArray).size ≤ 62000 := by simp only [ByteArray.size_append]; have hz1 : (ByteArray.mk #[32]).size = 1 := rfl; have hz3 : (ByteArray.mk #[35, 35, 32]).size = 3 := rfl; omega
                      rw [hop.1] at HJ0
                      rw [hop.2] at HJ1
                      clear hop hsp hTX hsa0 t1 t2 t3 hs0 hq0 hj hOl hsa hY hLz hqn
                      go_wp2_with (first | (go_at_call 25; (with_reducible refine (HW.out _).mono ?_); (rintro e w4 ⟨rfl, hb4⟩); (have HB4 : Hid (Below w.heap.size w w4) := Lib.hid (HB6.out.trans (hb4.mono HB6.out.size))); clear hb4) | (go_at_call 30; (with_reducible refine (HJ0.out _).mono ?_); (rintro e w5 ⟨rfl, hb5⟩); (have hba5 : Below wr.heap.size wr w5 := hb5); (have hz5 := hb5.size); (have f0 : w5.cell? ⟨g, o + q * 3, none⟩ = some (.int .i64 k) := (hba5.cell (p := ⟨g, o + q * 3, none⟩) hgr).trans b0); (have f1 : w5.cell? ⟨g, o + q * 3 + 1, none⟩ = some (.string x) := (hba5.cell (p := ⟨g, o + q * 3 + 1, none⟩) hgr).trans b1); (have f2 : w5.cell? ⟨g, o + q * 3 + 2, none⟩ = some (.int .i64 p) := (hba5.cell (p := ⟨g, o + q * 3 + 2, none⟩) hgr).trans b2); (have HB5 : Hid (Below w.heap.size w w5) := Lib.hid (HB3.out.trans (hb5.mono HB3.out.size))); clear hb5 hba5) | (go_at_call 30; (with_reducible refine (HJ1.out _).mono ?_); (rintro e w6 ⟨rfl, hb6⟩); (have hba6 : Below w5.heap.size w5 w6 := hb6); (have g0 : w6.cell? ⟨g, o + q * 3, none⟩ = some (.int .i64 k) := (hba6.cell (p := ⟨g, o + q * 3, none⟩) (by show g < w5.heap.size; omega)).trans f0); (have g1 : w6.cell? ⟨g, o + q * 3 + 1, none⟩ = some (.string x) := (hba6.cell (p := ⟨g, o + q * 3 + 1, none⟩) (by show g < w5.heap.size; omega)).trans f1); (have g2 : w6.cell? ⟨g, o + q * 3 + 2, none⟩ = some (.int .i64 p) := (hba6.cell (p := ⟨g, o + q * 3 + 2, none⟩) (by show g < w5.heap.size; omega)).trans f2); (have HB6 : Hid (Below w.heap.size w w6) := Lib.hid (HB5.out.trans (hb6.mono HB5.out.size))); clear hb6 hba6))
                      go_roundw
                      case rel => exact ⟨q + 1, hqn2, by go_num, by rw [HT.out], HB4.out⟩
                      case measure => simp [intOf]; omega
                    · have hsp : spF k0 k = ⟨#[32]⟩ := by unfold spF; rw [if_neg hop]
                      have HT : Hid ((O ++ ⟨#[32]⟩ ++ Y : ByteArray) = ⟨(txB r l (q + 1)).toArray⟩) := Lib.hid (by
                        refine ByteArray.ext (Array.toList_inj.1 ?_)
                        rw [ByteArray.data_append, ByteArray.data_append, Array.toList_append, Array.toList_append, hOl, hTX, hsp])
                      have hq1 : decide (((O ++ ⟨#[32]⟩ ++ Y : ByteArray).size : Int) > 65536) = false := decide_eq_false (by simp only [ByteArray.size_append]; have hz1 : (ByteArray.mk #[32]).size = 1 := rfl; omega)
                      have hq2 : decide (65536 < ((O ++ ⟨#[32]⟩ ++ Y : ByteArray).size : Int)) = false := decide_eq_false (by simp only [ByteArray.size_append]; have hz1 : (ByteArray.mk #[32]).size = 1 := rfl; omega)
                      have hq3 : decide ((O.size : Int) + 1 + (Y.size : Int) > 65536) = false := decide_eq_false (by omega)
                      have hq4 : decide (65536 < (O.size : Int) + 1 + (Y.size : Int)) = false := decide_eq_false (by omega)
                      have hq5 : (O ++ ⟨#[32]⟩ ++ Y : ByteArray).size ≤ 65000 := by simp only [ByteArray.size_append]; have hz1 : (ByteArray.mk #[32]).size = 1 := rfl; omega
                      have hq6 : (O ++ ⟨#[32]⟩ : ByteArray).size ≤ 61000 := by simp only [ByteArray.size_append]; have hz1 : (ByteArray.mk #[32]).size = 1 := rfl; omega
                      have hcs : opn k0 = false ∨ (opn k0 = true ∧ opn k = false) := by
                        cases h0 : opn k0 with
                        | false => exact Or.inl rfl
                        | true =>
                          cases h1 : opn k with
                          | false => exact Or.inr ⟨rfl, rfl⟩
                          | true => exact absurd ⟨h0, h1⟩ hop
                      clear hop hsp hTX hsa0 t1 t2 t3 hs0 hq0 hj hOl hsa hY hLz hqn
                      rcases hcs with h0 | ⟨h0, h1⟩
                      · rw [h0] at HJ0
                        clear h0
                        go_wp2_with (first | (go_at_call 25; (with_reducible refine (HW.out _).mono ?_); (rintro e w4 ⟨rfl, hb4⟩); (have HB4 : Hid (Below w.heap.size w w4) := Lib.hid (HB5.out.trans (hb4.mono HB5.out.size))); clear hb4) | (go_at_call 30; (with_reducible refine (HJ0.out _).mono ?_); (rintro e w5 ⟨rfl, hb5⟩); (have hba5 : Below wr.heap.size wr w5 := hb5); (have hz5 := hb5.size); (have f0 : w5.cell? ⟨g, o + q * 3, none⟩ = some (.int .i64 k) := (hba5.cell (p := ⟨g, o + q * 3, none⟩) hgr).trans b0); (have f1 : w5.cell? ⟨g, o + q * 3 + 1, none⟩ = some (.string x) := (hba5.cell (p := ⟨g, o + q * 3 + 1, none⟩) hgr).trans b1); (have f2 : w5.cell? ⟨g, o + q * 3 + 2, none⟩ = some (.int .i64 p) := (hba5.cell (p := ⟨g, o + q * 3 + 2, none⟩) hgr).trans b2); (have HB5 : Hid (Below w.heap.size w w5) := Lib.hid (HB3.out.trans (hb5.mono HB3.out.size))); clear hb5 hba5))
                        go_roundw
                        case rel => exact ⟨q + 1, hqn2, by go_num, by rw [HT.out], HB4.out⟩
                        case measure => simp [intOf]; omega
                      · rw [h0] at HJ0
                        rw [h1] at HJ1
                        clear h0 h1
                        go_wp2_with (first | (go_at_call 25; (with_reducible refine (HW.out _).mono ?_); (rintro e w4 ⟨rfl, hb4⟩); (have HB4 : Hid (Below w.heap.size w w4) := Lib.hid (HB6.out.trans (hb4.mono HB6.out.size))); clear hb4) | (go_at_call 30; (with_reducible refine (HJ0.out _).mono ?_); (rintro e w5 ⟨rfl, hb5⟩); (have hba5 : Below wr.heap.size wr w5 := hb5); (have hz5 := hb5.size); (have f0 : w5.cell? ⟨g, o + q * 3, none⟩ = some (.int .i64 k) := (hba5.cell (p := ⟨g, o + q * 3, none⟩) hgr).trans b0); (have f1 : w5.cell? ⟨g, o + q * 3 + 1, none⟩ = some (.string x) := (hba5.cell (p := ⟨g, o + q * 3 + 1, none⟩) hgr).trans b1); (have f2 : w5.cell? ⟨g, o + q * 3 + 2, none⟩ = some (.int .i64 p) := (hba5.cell (p := ⟨g, o + q * 3 + 2, none⟩) hgr).trans b2); (have HB5 : Hid (Below w.heap.size w w5) := Lib.hid (HB3.out.trans (hb5.mono HB3.out.size))); clear hb5 hba5) | (go_at_call 30; (with_reducible refine (HJ1.out _).mono ?_); (rintro e w6 ⟨rfl, hb6⟩); (have hba6 : Below w5.heap.size w5 w6 := hb6); (have g0 : w6.cell? ⟨g, o + q * 3, none⟩ = some (.int .i64 k) := (hba6.cell (p := ⟨g, o + q * 3, none⟩) (by show g < w5.heap.size; omega)).trans f0); (have g1 : w6.cell? ⟨g, o + q * 3 + 1, none⟩ = some (.string x) := (hba6.cell (p := ⟨g, o + q * 3 + 1, none⟩) (by show g < w5.heap.size; omega)).trans f1); (have g2 : w6.cell? ⟨g, o + q * 3 + 2, none⟩ = some (.int .i64 p) := (hba6.cell (p := ⟨g, o + q * 3 + 2, none⟩) (by show g < w5.heap.size; omega)).trans f2); (have HB6 : Hid (Below w.heap.size w w6) := Lib.hid (HB5.out.trans (hb6.mono HB5.out.size))); clear hb6 hba6))
                        go_roundw
                        case rel => exact ⟨q + 1, hqn2, by go_num, by rw [HT.out], HB4.out⟩
                        case measure => simp [intOf]; omega
                · have hqe : q = l.length := by omega
                  have hRq : R = (⟨(txB r l q).toArray⟩, 0) := by rw [hqe]; exact HRN.out
                  have HRQ := Lib.hid hRq
                  clear hb3 hLz hRq hqn hqn2
                  subst hqe
                  go_wp2_with fail
                  go_returns
                  rw [HRQ.out]
                  exact ⟨rfl, HB3.out⟩
            · exact absurd hil ho3
      · clear hs0
        go_wp2_with fail
        go_loopw [7] (fun v7 wr => ∃ i : Nat, i ≤ l.length ∧ i ≤ n + 1 ∧ v7 = .int .i64 i ∧ Below w.heap.size w wr ∧ ∀ j, j < i → chF (sA l j).1 (sA l j).2.1 = 0) (fun v7 _ => l.length - (intOf v7).toNat)
        case atStart => exact ⟨0, Nat.zero_le _, Nat.zero_le _, rfl, HB0.out, fun j hj => absurd hj (Nat.not_lt_zero _)⟩
        case round =>
          obtain ⟨i, hil, hin, rfl, hb2, hch⟩ := hrel
          have HB2 := Lib.hid hb2
          have HCH := Lib.hid hch
          clear hch
          by_cases hgo : i < l.length ∧ i ≤ n
          · obtain ⟨hil2, hin2⟩ := hgo
            obtain ⟨s, hs⟩ : ∃ s, l[i]? = some s := ⟨l[i], List.getElem?_eq_getElem hil2⟩
            have hsa := sA_eq hs
            have hxz := HZS.out s (List.mem_of_getElem? hs)
            obtain ⟨s1, s2, s3⟩ := sy_at l i s hs
            have b0 : wr.cell? ⟨g, o + i * 3, none⟩ = some (.int .i64 s.1) := (hb2.cell (p := ⟨g, o + i * 3, none⟩) hg2).trans (HGC.out _ _ s1)
            have b1 : wr.cell? ⟨g, o + i * 3 + 1, none⟩ = some (.string s.2.1) := (hb2.cell (p := ⟨g, o + i * 3 + 1, none⟩) hg2).trans (HGC.out _ _ s2)
            have b2 : wr.cell? ⟨g, o + i * 3 + 2, none⟩ = some (.int .i64 s.2.2) := (hb2.cell (p := ⟨g, o + i * 3 + 2, none⟩) hg2).trans (HGC.out _ _ s3)
            have HC1 := Lib.hid (fun (W : World) => HC.out s.1 s.2.1 s.2.2 W hxz)
            have hii : decide ((i : Int) ≤ (n : Int)) = true := decide_eq_true (by omega)
            have hii2 : decide (i ≤ n) = true := decide_eq_true hin2
            by_cases hc : chF s.1 s.2.1 = 0
            · rw [hc] at HC1
              have HCH1 : Hid (∀ j, j < i + 1 → chF (sA l j).1 (sA l j).2.1 = 0) := Lib.hid (fun j hj => by
                rcases Nat.lt_or_ge j i with h | h
                · exact HCH.out j h
                · have : j = i := by omega
                  subst this; rw [hsa]; exact hc)
              obtain ⟨k, x, p⟩ := s
              simp only at b0 b1 b2 HC1
              clear hb2 hs hsa s1 s2 s3 hc
              go_wp2_with (go_at_call 15; (with_reducible refine (HC1.out _).mono ?_); (rintro e w4 ⟨rfl, hb4⟩); (have HB4 := Lib.hid (HB2.out.trans (hb4.mono HB2.out.size))); clear hb4)
              go_roundw
              case rel => exact ⟨i + 1, hil2, by omega, by go_num, HB4.out, HCH1.out⟩
              case measure => simp [intOf]; omega
            · have hRb : R = (⟨#[]⟩, chF s.1 s.2.1) := by
                rw [← HR.out, txR_skip i hil (fun j hj => ⟨HK0.out j (by omega), HCH.out j hj⟩), tx_bad hil2 (by rw [hsa]; exact hc), hsa]
              have hcb : (chF s.1 s.2.1 != 0) = true := by rw [bne_iff_ne]; exact hc
              have HRB := Lib.hid hRb
              obtain ⟨k, x, p⟩ := s
              simp only at b0 b1 b2 HC1 hcb HRB
              obtain ⟨z, hz⟩ : ∃ z, chF k x = z := ⟨_, rfl⟩
              rw [hz] at HC1 hcb HRB
              clear hb2 hs hsa s1 s2 s3 hc hz hRb
              go_wp2_with (go_at_call 15; (with_reducible refine (HC1.out _).mono ?_); (rintro e w4 ⟨rfl, hb4⟩); (have HB4 := Lib.hid (HB2.out.trans (hb4.mono HB2.out.size))); clear hb4)
              go_returns
              rw [HRB.out]
              exact ⟨rfl, HB4.out⟩
          · have hRn : R = (⟨(txB r l n).toArray⟩, 0) := by
              have hch := HCH.out
              have hk0 := HK0.out
              rcases HEX.out with h | ⟨h, hk⟩
              · rw [← HR.out, txR_skip l.length (Nat.le_refl _) (fun j hj => ⟨hk0 j (by omega), hch j (by omega)⟩), tx_all (Nat.le_refl _)]
                rw [← h]
              · rw [← HR.out, txR_skip n (by omega) (fun j hj => ⟨hk0 j hj, hch j (by omega)⟩), tx_end h (hch n (by omega)) hk]
            have HRN := Lib.hid hRn
            have hor : i = l.length ∨ ¬ i ≤ n ∧ i < l.length := by
              by_cases h : i < l.length
              · exact Or.inr ⟨fun hh => hgo ⟨h, hh⟩, h⟩
              · exact Or.inl (by omega)
            clear hgo hRn hb2
            rcases hor with ho | ⟨ho3, ho4⟩
            · have hx1 : decide ((l.length : Int) < (l.length : Int)) = false := decide_eq_false (by omega)
              subst ho
              go_wp2_with fail
              go_loopw [9, 10] (fun v9 v10 wr => ∃ q : Nat, q ≤ n ∧ v10 = .int .i64 q ∧ v9 = .string ⟨(txB r l q).toArray⟩ ∧ Below w.heap.size w wr) (fun _ v10 _ => n - (intOf v10).toNat)
              case atStart => exact ⟨0, Nat.zero_le _, rfl, rfl, HB2.out⟩
              case round =>
                obtain ⟨q, hqn, rfl, rfl, hb3⟩ := hrel
                have HB3 := Lib.hid hb3
                have hgr : g < wr.heap.size := Nat.lt_of_lt_of_le hg2 hb3.size
                have hLz := HLT.out q (by omega)
                by_cases hqn2 : q < n
                · obtain ⟨s, hs⟩ : ∃ s, l[q]? = some s := ⟨l[q]'(by omega), List.getElem?_eq_getElem (by omega)⟩
                  have hsa := sA_eq hs
                  have hxz := HZS.out s (List.mem_of_getElem? hs)
                  obtain ⟨s1, s2, s3⟩ := sy_at l q s hs
                  have b0 : wr.cell? ⟨g, o + q * 3, none⟩ = some (.int .i64 s.1) := (hb3.cell (p := ⟨g, o + q * 3, none⟩) hg2).trans (HGC.out _ _ s1)
                  have b1 : wr.cell? ⟨g, o + q * 3 + 1, none⟩ = some (.string s.2.1) := (hb3.cell (p := ⟨g, o + q * 3 + 1, none⟩) hg2).trans (HGC.out _ _ s2)
                  have b2 : wr.cell? ⟨g, o + q * 3 + 2, none⟩ = some (.int .i64 s.2.2) := (hb3.cell (p := ⟨g, o + q * 3 + 2, none⟩) hg2).trans (HGC.out _ _ s3)
                  have HW := Lib.hid (fun (W : World) => rwritten_any s.1 s.2.1 s.2.2 r W (by omega) HRR.out)
                  have HJ1 := Lib.hid (fun (W : World) => rjoined_any s.1 s.2.1 s.2.2 W)
                  have hyz := wrF_size s.1 r s.2.1
                  obtain ⟨k, x, p⟩ := s
                  simp only at b0 b1 b2 HW HJ1 hyz hxz
                  obtain ⟨Y, hY⟩ : ∃ Y, wrF k r x = Y := ⟨_, rfl⟩
                  rw [hY] at HW hyz
                  generalize hO : (⟨(txB r l q).toArray⟩ : ByteArray) = O
                  have hOz : O.size ≤ 60000 := by rw [← hO]; show (txB r l q).toArray.size ≤ 60000; rw [List.size_toArray]; exact hLz
                  have hOl : O.data.toList = txB r l q := by rw [← hO]
                  have hYz : Y.size ≤ 1000 := by omega
                  have hql : (q : Int) < (n : Int) := by omega
                  have hqd : decide ((q : Int) < (n : Int)) = true := decide_eq_true hql
                  have hqlen : q < l.length := by omega
                  clear hb3 s1 s2 s3 hs hyz hxz hO
                  rcases (by omega : q = 0 ∨ 1 ≤ q) with hq0 | hq0
                  · have HT : Hid ((O ++ Y : ByteArray) = ⟨(txB r l (q + 1)).toArray⟩) := Lib.hid (by
                      subst hq0
                      refine ByteArray.ext (Array.toList_inj.1 ?_)
                      rw [ByteArray.data_append, Array.toList_append, hOl, txB_one, hsa, ← hY]
                      rfl)
                    have hgt : decide ((q : Int) > 0) = false := decide_eq_false (by omega)
                    have hgt2 : decide (0 < q) = false := decide_eq_false (by omega)
                    have hq1 : decide (((O ++ Y : ByteArray).size : Int) > 65536) = false := decide_eq_false (by simp only [ByteArray.size_append]; omega)
                    have hq2 : decide (65536 < ((O ++ Y : ByteArray).size : Int)) = false := decide_eq_false (by simp only [ByteArray.size_append]; omega)
                    have hq3 : decide ((O.size : Int) + (Y.size : Int) > 65536) = false := decide_eq_false (by omega)
                    have hq4 : decide (65536 < (O.size : Int) + (Y.size : Int)) = false := decide_eq_false (by omega)
                    have hq5 : (O ++ Y : ByteArray).size ≤ 65000 := by simp only [ByteArray.size_append]; omega
                    have HQ0 := Lib.hid hq0
                    clear hq0 hOl hsa hY hLz hqn
                    go_wp2_with (first | (go_at_call 25; (with_reducible refine (HW.out _).mono ?_); (rintro e w4 ⟨rfl, hb4⟩); (have HB4 : Hid (Below w.heap.size w w4) := Lib.hid (HB3.out.trans (hb4.mono HB3.out.size))); clear hb4))
                    go_roundw
                    case rel => exact ⟨q + 1, hqn2, by go_num, by rw [HT.out], HB4.out⟩
                    case measure => simp [intOf]; omega
                  · obtain ⟨j, hj⟩ : ∃ j, j + 1 = q := ⟨q - 1, by omega⟩
                    obtain ⟨s0, hs0⟩ : ∃ s, l[j]? = some s := ⟨l[j]'(by omega), List.getElem?_eq_getElem (by omega)⟩
                    have hsa0 := sA_eq hs0
                    obtain ⟨t1, t2, t3⟩ := sy_at l j s0 hs0
                    have p0 : wr.cell? ⟨g, o + j * 3, none⟩ = some (.int .i64 s0.1) := (HB3.out.cell (p := ⟨g, o + j * 3, none⟩) hg2).trans (HGC.out _ _ t1)
                    have p1 : wr.cell? ⟨g, o + j * 3 + 1, none⟩ = some (.string s0.2.1) := (HB3.out.cell (p := ⟨g, o + j * 3 + 1, none⟩) hg2).trans (HGC.out _ _ t2)
                    have p2 : wr.cell? ⟨g, o + j * 3 + 2, none⟩ = some (.int .i64 s0.2.2) := (HB3.out.cell (p := ⟨g, o + j * 3 + 2, none⟩) hg2).trans (HGC.out _ _ t3)
                    have HJ0 := Lib.hid (fun (W : World) => rjoined_any s0.1 s0.2.1 s0.2.2 W)
                    obtain ⟨k0, x0, z0⟩ := s0
                    simp only at p0 p1 p2 HJ0
                    have hTX : txB r l (q + 1) = txB r l q ++ (spF k0 k).data.toList ++ Y.data.toList := by
                      subst hj
                      rw [txB_more, hsa, hsa0, hY]
                    have hgt : decide ((q : Int) > 0) = true := decide_eq_true (by omega)
                    have hgt2 : decide (0 < q) = true := decide_eq_true (by omega)
                    have hgt3 : 0 < q := by omega
                    have hwj : IntKind.i64.wrap ((q : Int) - 1) = (j : Int) := by (have e : (q : Int) - 1 = (j : Int) := by omega); rw [e]; exact IntWalk.i64_in _ (by omega)
                    have hj0 : j < l.length := by omega
                    have hj1 : (j : Int) < (l.length : Int) := by omega
                    by_cases hop : opn k0 = true ∧ opn k = true
                    · have hsp : spF k0 k = ⟨#[32, 35, 35, 32]⟩ := by unfold spF; rw [if_pos hop]
                      have HT : Hid ((O ++ ⟨#[32]⟩ ++ ⟨#[35, 35, 32]⟩ ++ Y : ByteArray) = ⟨(txB r l (q + 1)).toArray⟩) := Lib.hid (by
                        refine ByteArray.ext (Array.toList_inj.1 ?_)
                        rw [ByteArray.data_append, ByteArray.data_append, ByteArray.data_append, Array.toList_append, Array.toList_append, Array.toList_append, hOl, hTX, hsp]
                        simp)
                      have hq1 : decide (((O ++ ⟨#[32]⟩ ++ ⟨#[35, 35, 32]⟩ ++ Y : ByteArray).size : Int) > 65536) = false := decide_eq_false (by simp only [ByteArray.size_append]; have hz1 : (ByteArray.mk #[32]).size = 1 := rfl; have hz3 : (ByteArray.mk #[35, 35, 32]).size = 3 := rfl; omega)
                      have hq2 : decide (65536 < ((O ++ ⟨#[32]⟩ ++ ⟨#[35, 35, 32]⟩ ++ Y : ByteArray).size : Int)) = false := decide_eq_false (by simp only [ByteArray.size_append]; have hz1 : (ByteArray.mk #[32]).size = 1 := rfl; have hz3 : (ByteArray.mk #[35, 35, 32]).size = 3 := rfl; omega)
                      have hq3 : decide ((O.size : Int) + 1 + 3 + (Y.size : Int) > 65536) = false := decide_eq_false (by omega)
                      have hq4 : decide (65536 < (O.size : Int) + 1 + 3 + (Y.size : Int)) = false := decide_eq_false (by omega)
                      have hq5 : (O ++ ⟨#[32]⟩ ++ ⟨#[35, 35, 32]⟩ ++ Y : ByteArray).size ≤ 65000 := by simp only [ByteArray.size_append]; have hz1 : (ByteArray.mk #[32]).size = 1 := rfl; have hz3 : (ByteArray.mk #[35, 35, 32]).size = 3 := rfl; omega
                      have hq6 : (O ++ ⟨#[32]⟩ : ByteArray).size ≤ 61000 := by simp only [ByteArray.size_append]; have hz1 : (ByteArray.mk #[32]).size = 1 := rfl; omega
                      have hq7 : (O ++ ⟨#[32]⟩ ++ ⟨#[35, 35, 32]⟩ : ByteArray).size ≤ 62000 := by simp only [ByteArray.size_append]; have hz1 : (ByteArray.mk #[32]).size = 1 := rfl; have hz3 : (ByteArray.mk #[35, 35, 32]).size = 3 := rfl; omega
                      rw [hop.1] at HJ0
                      rw [hop.2] at HJ1
                      clear hop hsp hTX hsa0 t1 t2 t3 hs0 hq0 hj hOl hsa hY hLz hqn
                      go_wp2_with (first | (go_at_call 25; (with_reducible refine (HW.out _).mono ?_); (rintro e w4 ⟨rfl, hb4⟩); (have HB4 : Hid (Below w.heap.size w w4) := Lib.hid (HB6.out.trans (hb4.mono HB6.out.size))); clear hb4) | (go_at_call 30; (with_reducible refine (HJ0.out _).mono ?_); (rintro e w5 ⟨rfl, hb5⟩); (have hba5 : Below wr.heap.size wr w5 := hb5); (have hz5 := hb5.size); (have f0 : w5.cell? ⟨g, o + q * 3, none⟩ = some (.int .i64 k) := (hba5.cell (p := ⟨g, o + q * 3, none⟩) hgr).trans b0); (have f1 : w5.cell? ⟨g, o + q * 3 + 1, none⟩ = some (.string x) := (hba5.cell (p := ⟨g, o + q * 3 + 1, none⟩) hgr).trans b1); (have f2 : w5.cell? ⟨g, o + q * 3 + 2, none⟩ = some (.int .i64 p) := (hba5.cell (p := ⟨g, o + q * 3 + 2, none⟩) hgr).trans b2); (have HB5 : Hid (Below w.heap.size w w5) := Lib.hid (HB3.out.trans (hb5.mono HB3.out.size))); clear hb5 hba5) | (go_at_call 30; (with_reducible refine (HJ1.out _).mono ?_); (rintro e w6 ⟨rfl, hb6⟩); (have hba6 : Below w5.heap.size w5 w6 := hb6); (have g0 : w6.cell? ⟨g, o + q * 3, none⟩ = some (.int .i64 k) := (hba6.cell (p := ⟨g, o + q * 3, none⟩) (by show g < w5.heap.size; omega)).trans f0); (have g1 : w6.cell? ⟨g, o + q * 3 + 1, none⟩ = some (.string x) := (hba6.cell (p := ⟨g, o + q * 3 + 1, none⟩) (by show g < w5.heap.size; omega)).trans f1); (have g2 : w6.cell? ⟨g, o + q * 3 + 2, none⟩ = some (.int .i64 p) := (hba6.cell (p := ⟨g, o + q * 3 + 2, none⟩) (by show g < w5.heap.size; omega)).trans f2); (have HB6 : Hid (Below w.heap.size w w6) := Lib.hid (HB5.out.trans (hb6.mono HB5.out.size))); clear hb6 hba6))
                      go_roundw
                      case rel => exact ⟨q + 1, hqn2, by go_num, by rw [HT.out], HB4.out⟩
                      case measure => simp [intOf]; omega
                    · have hsp : spF k0 k = ⟨#[32]⟩ := by unfold spF; rw [if_neg hop]
                      have HT : Hid ((O ++ ⟨#[32]⟩ ++ Y : ByteArray) = ⟨(txB r l (q + 1)).toArray⟩) := Lib.hid (by
                        refine ByteArray.ext (Array.toList_inj.1 ?_)
                        rw [ByteArray.data_append, ByteArray.data_append, Array.toList_append, Array.toList_append, hOl, hTX, hsp])
                      have hq1 : decide (((O ++ ⟨#[32]⟩ ++ Y : ByteArray).size : Int) > 65536) = false := decide_eq_false (by simp only [ByteArray.size_append]; have hz1 : (ByteArray.mk #[32]).size = 1 := rfl; omega)
                      have hq2 : decide (65536 < ((O ++ ⟨#[32]⟩ ++ Y : ByteArray).size : Int)) = false := decide_eq_false (by simp only [ByteArray.size_append]; have hz1 : (ByteArray.mk #[32]).size = 1 := rfl; omega)
                      have hq3 : decide ((O.size : Int) + 1 + (Y.size : Int) > 65536) = false := decide_eq_false (by omega)
                      have hq4 : decide (65536 < (O.size : Int) + 1 + (Y.size : Int)) = false := decide_eq_false (by omega)
                      have hq5 : (O ++ ⟨#[32]⟩ ++ Y : ByteArray).size ≤ 65000 := by simp only [ByteArray.size_append]; have hz1 : (ByteArray.mk #[32]).size = 1 := rfl; omega
                      have hq6 : (O ++ ⟨#[32]⟩ : ByteArray).size ≤ 61000 := by simp only [ByteArray.size_append]; have hz1 : (ByteArray.mk #[32]).size = 1 := rfl; omega
                      have hcs : opn k0 = false ∨ (opn k0 = true ∧ opn k = false) := by
                        cases h0 : opn k0 with
                        | false => exact Or.inl rfl
                        | true =>
                          cases h1 : opn k with
                          | false => exact Or.inr ⟨rfl, rfl⟩
                          | true => exact absurd ⟨h0, h1⟩ hop
                      clear hop hsp hTX hsa0 t1 t2 t3 hs0 hq0 hj hOl hsa hY hLz hqn
                      rcases hcs with h0 | ⟨h0, h1⟩
                      · rw [h0] at HJ0
                        clear h0
                        go_wp2_with (first | (go_at_call 25; (with_reducible refine (HW.out _).mono ?_); (rintro e w4 ⟨rfl, hb4⟩); (have HB4 : Hid (Below w.heap.size w w4) := Lib.hid (HB5.out.trans (hb4.mono HB5.out.size))); clear hb4) | (go_at_call 30; (with_reducible refine (HJ0.out _).mono ?_); (rintro e w5 ⟨rfl, hb5⟩); (have hba5 : Below wr.heap.size wr w5 := hb5); (have hz5 := hb5.size); (have f0 : w5.cell? ⟨g, o + q * 3, none⟩ = some (.int .i64 k) := (hba5.cell (p := ⟨g, o + q * 3, none⟩) hgr).trans b0); (have f1 : w5.cell? ⟨g, o + q * 3 + 1, none⟩ = some (.string x) := (hba5.cell (p := ⟨g, o + q * 3 + 1, none⟩) hgr).trans b1); (have f2 : w5.cell? ⟨g, o + q * 3 + 2, none⟩ = some (.int .i64 p) := (hba5.cell (p := ⟨g, o + q * 3 + 2, none⟩) hgr).trans b2); (have HB5 : Hid (Below w.heap.size w w5) := Lib.hid (HB3.out.trans (hb5.mono HB3.out.size))); clear hb5 hba5))
                        go_roundw
                        case rel => exact ⟨q + 1, hqn2, by go_num, by rw [HT.out], HB4.out⟩
                        case measure => simp [intOf]; omega
                      · rw [h0] at HJ0
                        rw [h1] at HJ1
                        clear h0 h1
                        go_wp2_with (first | (go_at_call 25; (with_reducible refine (HW.out _).mono ?_); (rintro e w4 ⟨rfl, hb4⟩); (have HB4 : Hid (Below w.heap.size w w4) := Lib.hid (HB6.out.trans (hb4.mono HB6.out.size))); clear hb4) | (go_at_call 30; (with_reducible refine (HJ0.out _).mono ?_); (rintro e w5 ⟨rfl, hb5⟩); (have hba5 : Below wr.heap.size wr w5 := hb5); (have hz5 := hb5.size); (have f0 : w5.cell? ⟨g, o + q * 3, none⟩ = some (.int .i64 k) := (hba5.cell (p := ⟨g, o + q * 3, none⟩) hgr).trans b0); (have f1 : w5.cell? ⟨g, o + q * 3 + 1, none⟩ = some (.string x) := (hba5.cell (p := ⟨g, o + q * 3 + 1, none⟩) hgr).trans b1); (have f2 : w5.cell? ⟨g, o + q * 3 + 2, none⟩ = some (.int .i64 p) := (hba5.cell (p := ⟨g, o + q * 3 + 2, none⟩) hgr).trans b2); (have HB5 : Hid (Below w.heap.size w w5) := Lib.hid (HB3.out.trans (hb5.mono HB3.out.size))); clear hb5 hba5) | (go_at_call 30; (with_reducible refine (HJ1.out _).mono ?_); (rintro e w6 ⟨rfl, hb6⟩); (have hba6 : Below w5.heap.size w5 w6 := hb6); (have g0 : w6.cell? ⟨g, o + q * 3, none⟩ = some (.int .i64 k) := (hba6.cell (p := ⟨g, o + q * 3, none⟩) (by show g < w5.heap.size; omega)).trans f0); (have g1 : w6.cell? ⟨g, o + q * 3 + 1, none⟩ = some (.string x) := (hba6.cell (p := ⟨g, o + q * 3 + 1, none⟩) (by show g < w5.heap.size; omega)).trans f1); (have g2 : w6.cell? ⟨g, o + q * 3 + 2, none⟩ = some (.int .i64 p) := (hba6.cell (p := ⟨g, o + q * 3 + 2, none⟩) (by show g < w5.heap.size; omega)).trans f2); (have HB6 : Hid (Below w.heap.size w w6) := Lib.hid (HB5.out.trans (hb6.mono HB5.out.size))); clear hb6 hba6))
                        go_roundw
                        case rel => exact ⟨q + 1, hqn2, by go_num, by rw [HT.out], HB4.out⟩
                        case measure => simp [intOf]; omega
                · have hqe : q = n := by omega
                  have hRq : R = (⟨(txB r l q).toArray⟩, 0) := by rw [hqe]; exact HRN.out
                  have HRQ := Lib.hid hRq
                  clear hb3 hLz hRq hqn hqn2
                  subst hqe
                  go_wp2_with fail
                  go_returns
                  rw [HRQ.out]
                  exact ⟨rfl, HB3.out⟩
            · have hy1 : decide (i ≤ n) = false := decide_eq_false ho3
              have hy2 : decide ((i : Int) ≤ (n : Int)) = false := decide_eq_false (by omega)
              have hy3 : ¬ i ≤ n := ho3
              have hy4 : ¬ (i : Int) ≤ (n : Int) := by omega
              have hy5 : decide ((i : Int) < (l.length : Int)) = true := decide_eq_true (by omega)
              have hy6 : n < i := by omega
              go_wp2_with fail
              go_loopw [9, 10] (fun v9 v10 wr => ∃ q : Nat, q ≤ n ∧ v10 = .int .i64 q ∧ v9 = .string ⟨(txB r l q).toArray⟩ ∧ Below w.heap.size w wr) (fun _ v10 _ => n - (intOf v10).toNat)
              case atStart => exact ⟨0, Nat.zero_le _, rfl, rfl, HB2.out⟩
              case round =>
                obtain ⟨q, hqn, rfl, rfl, hb3⟩ := hrel
                have HB3 := Lib.hid hb3
                have hgr : g < wr.heap.size := Nat.lt_of_lt_of_le hg2 hb3.size
                have hLz := HLT.out q (by omega)
                by_cases hqn2 : q < n
                · obtain ⟨s, hs⟩ : ∃ s, l[q]? = some s := ⟨l[q]'(by omega), List.getElem?_eq_getElem (by omega)⟩
                  have hsa := sA_eq hs
                  have hxz := HZS.out s (List.mem_of_getElem? hs)
                  obtain ⟨s1, s2, s3⟩ := sy_at l q s hs
                  have b0 : wr.cell? ⟨g, o + q * 3, none⟩ = some (.int .i64 s.1) := (hb3.cell (p := ⟨g, o + q * 3, none⟩) hg2).trans (HGC.out _ _ s1)
                  have b1 : wr.cell? ⟨g, o + q * 3 + 1, none⟩ = some (.string s.2.1) := (hb3.cell (p := ⟨g, o + q * 3 + 1, none⟩) hg2).trans (HGC.out _ _ s2)
                  have b2 : wr.cell? ⟨g, o + q * 3 + 2, none⟩ = some (.int .i64 s.2.2) := (hb3.cell (p := ⟨g, o + q * 3 + 2, none⟩) hg2).trans (HGC.out _ _ s3)
                  have HW := Lib.hid (fun (W : World) => rwritten_any s.1 s.2.1 s.2.2 r W (by omega) HRR.out)
                  have HJ1 := Lib.hid (fun (W : World) => rjoined_any s.1 s.2.1 s.2.2 W)
                  have hyz := wrF_size s.1 r s.2.1
                  obtain ⟨k, x, p⟩ := s
                  simp only at b0 b1 b2 HW HJ1 hyz hxz
                  obtain ⟨Y, hY⟩ : ∃ Y, wrF k r x = Y := ⟨_, rfl⟩
                  rw [hY] at HW hyz
                  generalize hO : (⟨(txB r l q).toArray⟩ : ByteArray) = O
                  have hOz : O.size ≤ 60000 := by rw [← hO]; show (txB r l q).toArray.size ≤ 60000; rw [List.size_toArray]; exact hLz
                  have hOl : O.data.toList = txB r l q := by rw [← hO]
                  have hYz : Y.size ≤ 1000 := by omega
                  have hql : (q : Int) < (n : Int) := by omega
                  have hqd : decide ((q : Int) < (n : Int)) = true := decide_eq_true hql
                  have hqlen : q < l.length := by omega
                  clear hb3 s1 s2 s3 hs hyz hxz hO
                  rcases (by omega : q = 0 ∨ 1 ≤ q) with hq0 | hq0
                  · have HT : Hid ((O ++ Y : ByteArray) = ⟨(txB r l (q + 1)).toArray⟩) := Lib.hid (by
                      subst hq0
                      refine ByteArray.ext (Array.toList_inj.1 ?_)
                      rw [ByteArray.data_append, Array.toList_append, hOl, txB_one, hsa, ← hY]
                      rfl)
                    have hgt : decide ((q : Int) > 0) = false := decide_eq_false (by omega)
                    have hgt2 : decide (0 < q) = false := decide_eq_false (by omega)
                    have hq1 : decide (((O ++ Y : ByteArray).size : Int) > 65536) = false := decide_eq_false (by simp only [ByteArray.size_append]; omega)
                    have hq2 : decide (65536 < ((O ++ Y : ByteArray).size : Int)) = false := decide_eq_false (by simp only [ByteArray.size_append]; omega)
                    have hq3 : decide ((O.size : Int) + (Y.size : Int) > 65536) = false := decide_eq_false (by omega)
                    have hq4 : decide (65536 < (O.size : Int) + (Y.size : Int)) = false := decide_eq_false (by omega)
                    have hq5 : (O ++ Y : ByteArray).size ≤ 65000 := by simp only [ByteArray.size_append]; omega
                    have HQ0 := Lib.hid hq0
                    clear hq0 hOl hsa hY hLz hqn
                    go_wp2_with (first | (go_at_call 25; (with_reducible refine (HW.out _).mono ?_); (rintro e w4 ⟨rfl, hb4⟩); (have HB4 : Hid (Below w.heap.size w w4) := Lib.hid (HB3.out.trans (hb4.mono HB3.out.size))); clear hb4))
                    go_roundw
                    case rel => exact ⟨q + 1, hqn2, by go_num, by rw [HT.out], HB4.out⟩
                    case measure => simp [intOf]; omega
                  · obtain ⟨j, hj⟩ : ∃ j, j + 1 = q := ⟨q - 1, by omega⟩
                    obtain ⟨s0, hs0⟩ : ∃ s, l[j]? = some s := ⟨l[j]'(by omega), List.getElem?_eq_getElem (by omega)⟩
                    have hsa0 := sA_eq hs0
                    obtain ⟨t1, t2, t3⟩ := sy_at l j s0 hs0
                    have p0 : wr.cell? ⟨g, o + j * 3, none⟩ = some (.int .i64 s0.1) := (HB3.out.cell (p := ⟨g, o + j * 3, none⟩) hg2).trans (HGC.out _ _ t1)
                    have p1 : wr.cell? ⟨g, o + j * 3 + 1, none⟩ = some (.string s0.2.1) := (HB3.out.cell (p := ⟨g, o + j * 3 + 1, none⟩) hg2).trans (HGC.out _ _ t2)
                    have p2 : wr.cell? ⟨g, o + j * 3 + 2, none⟩ = some (.int .i64 s0.2.2) := (HB3.out.cell (p := ⟨g, o + j * 3 + 2, none⟩) hg2).trans (HGC.out _ _ t3)
                    have HJ0 := Lib.hid (fun (W : World) => rjoined_any s0.1 s0.2.1 s0.2.2 W)
                    obtain ⟨k0, x0, z0⟩ := s0
                    simp only at p0 p1 p2 HJ0
                    have hTX : txB r l (q + 1) = txB r l q ++ (spF k0 k).data.toList ++ Y.data.toList := by
                      subst hj
                      rw [txB_more, hsa, hsa0, hY]
                    have hgt : decide ((q : Int) > 0) = true := decide_eq_true (by omega)
                    have hgt2 : decide (0 < q) = true := decide_eq_true (by omega)
                    have hgt3 : 0 < q := by omega
                    have hwj : IntKind.i64.wrap ((q : Int) - 1) = (j : Int) := by (have e : (q : Int) - 1 = (j : Int) := by omega); rw [e]; exact IntWalk.i64_in _ (by omega)
                    have hj0 : j < l.length := by omega
                    have hj1 : (j : Int) < (l.length : Int) := by omega
                    by_cases hop : opn k0 = true ∧ opn k = true
                    · have hsp : spF k0 k = ⟨#[32, 35, 35, 32]⟩ := by unfold spF; rw [if_pos hop]
                      have HT : Hid ((O ++ ⟨#[32]⟩ ++ ⟨#[35, 35, 32]⟩ ++ Y : ByteArray) = ⟨(txB r l (q + 1)).toArray⟩) := Lib.hid (by
                        refine ByteArray.ext (Array.toList_inj.1 ?_)
                        rw [ByteArray.data_append, ByteArray.data_append, ByteArray.data_append, Array.toList_append, Array.toList_append, Array.toList_append, hOl, hTX, hsp]
                        simp)
                      have hq1 : decide (((O ++ ⟨#[32]⟩ ++ ⟨#[35, 35, 32]⟩ ++ Y : ByteArray).size : Int) > 65536) = false := decide_eq_false (by simp only [ByteArray.size_append]; have hz1 : (ByteArray.mk #[32]).size = 1 := rfl; have hz3 : (ByteArray.mk #[35, 35, 32]).size = 3 := rfl; omega)
                      have hq2 : decide (65536 < ((O ++ ⟨#[32]⟩ ++ ⟨#[35, 35, 32]⟩ ++ Y : ByteArray).size : Int)) = false := decide_eq_false (by simp only [ByteArray.size_append]; have hz1 : (ByteArray.mk #[32]).size = 1 := rfl; have hz3 : (ByteArray.mk #[35, 35, 32]).size = 3 := rfl; omega)
                      have hq3 : decide ((O.size : Int) + 1 + 3 + (Y.size : Int) > 65536) = false := decide_eq_false (by omega)
                      have hq4 : decide (65536 < (O.size : Int) + 1 + 3 + (Y.size : Int)) = false := decide_eq_false (by omega)
                      have hq5 : (O ++ ⟨#[32]⟩ ++ ⟨#[35, 35, 32]⟩ ++ Y : ByteArray).size ≤ 65000 := by simp only [ByteArray.size_append]; have hz1 : (ByteArray.mk #[32]).size = 1 := rfl; have hz3 : (ByteArray.mk #[35, 35, 32]).size = 3 := rfl; omega
                      have hq6 : (O ++ ⟨#[32]⟩ : ByteArray).size ≤ 61000 := by simp only [ByteArray.size_append]; have hz1 : (ByteArray.mk #[32]).size = 1 := rfl; omega
                      have hq7 : (O ++ ⟨#[32]⟩ ++ ⟨#[35, 35, 32]⟩ : ByteArray).size ≤ 62000 := by simp only [ByteArray.size_append]; have hz1 : (ByteArray.mk #[32]).size = 1 := rfl; have hz3 : (ByteArray.mk #[35, 35, 32]).size = 3 := rfl; omega
                      rw [hop.1] at HJ0
                      rw [hop.2] at HJ1
                      clear hop hsp hTX hsa0 t1 t2 t3 hs0 hq0 hj hOl hsa hY hLz hqn
                      go_wp2_with (first | (go_at_call 25; (with_reducible refine (HW.out _).mono ?_); (rintro e w4 ⟨rfl, hb4⟩); (have HB4 : Hid (Below w.heap.size w w4) := Lib.hid (HB6.out.trans (hb4.mono HB6.out.size))); clear hb4) | (go_at_call 30; (with_reducible refine (HJ0.out _).mono ?_); (rintro e w5 ⟨rfl, hb5⟩); (have hba5 : Below wr.heap.size wr w5 := hb5); (have hz5 := hb5.size); (have f0 : w5.cell? ⟨g, o + q * 3, none⟩ = some (.int .i64 k) := (hba5.cell (p := ⟨g, o + q * 3, none⟩) hgr).trans b0); (have f1 : w5.cell? ⟨g, o + q * 3 + 1, none⟩ = some (.string x) := (hba5.cell (p := ⟨g, o + q * 3 + 1, none⟩) hgr).trans b1); (have f2 : w5.cell? ⟨g, o + q * 3 + 2, none⟩ = some (.int .i64 p) := (hba5.cell (p := ⟨g, o + q * 3 + 2, none⟩) hgr).trans b2); (have HB5 : Hid (Below w.heap.size w w5) := Lib.hid (HB3.out.trans (hb5.mono HB3.out.size))); clear hb5 hba5) | (go_at_call 30; (with_reducible refine (HJ1.out _).mono ?_); (rintro e w6 ⟨rfl, hb6⟩); (have hba6 : Below w5.heap.size w5 w6 := hb6); (have g0 : w6.cell? ⟨g, o + q * 3, none⟩ = some (.int .i64 k) := (hba6.cell (p := ⟨g, o + q * 3, none⟩) (by show g < w5.heap.size; omega)).trans f0); (have g1 : w6.cell? ⟨g, o + q * 3 + 1, none⟩ = some (.string x) := (hba6.cell (p := ⟨g, o + q * 3 + 1, none⟩) (by show g < w5.heap.size; omega)).trans f1); (have g2 : w6.cell? ⟨g, o + q * 3 + 2, none⟩ = some (.int .i64 p) := (hba6.cell (p := ⟨g, o + q * 3 + 2, none⟩) (by show g < w5.heap.size; omega)).trans f2); (have HB6 : Hid (Below w.heap.size w w6) := Lib.hid (HB5.out.trans (hb6.mono HB5.out.size))); clear hb6 hba6))
                      go_roundw
                      case rel => exact ⟨q + 1, hqn2, by go_num, by rw [HT.out], HB4.out⟩
                      case measure => simp [intOf]; omega
                    · have hsp : spF k0 k = ⟨#[32]⟩ := by unfold spF; rw [if_neg hop]
                      have HT : Hid ((O ++ ⟨#[32]⟩ ++ Y : ByteArray) = ⟨(txB r l (q + 1)).toArray⟩) := Lib.hid (by
                        refine ByteArray.ext (Array.toList_inj.1 ?_)
                        rw [ByteArray.data_append, ByteArray.data_append, Array.toList_append, Array.toList_append, hOl, hTX, hsp])
                      have hq1 : decide (((O ++ ⟨#[32]⟩ ++ Y : ByteArray).size : Int) > 65536) = false := decide_eq_false (by simp only [ByteArray.size_append]; have hz1 : (ByteArray.mk #[32]).size = 1 := rfl; omega)
                      have hq2 : decide (65536 < ((O ++ ⟨#[32]⟩ ++ Y : ByteArray).size : Int)) = false := decide_eq_false (by simp only [ByteArray.size_append]; have hz1 : (ByteArray.mk #[32]).size = 1 := rfl; omega)
                      have hq3 : decide ((O.size : Int) + 1 + (Y.size : Int) > 65536) = false := decide_eq_false (by omega)
                      have hq4 : decide (65536 < (O.size : Int) + 1 + (Y.size : Int)) = false := decide_eq_false (by omega)
                      have hq5 : (O ++ ⟨#[32]⟩ ++ Y : ByteArray).size ≤ 65000 := by simp only [ByteArray.size_append]; have hz1 : (ByteArray.mk #[32]).size = 1 := rfl; omega
                      have hq6 : (O ++ ⟨#[32]⟩ : ByteArray).size ≤ 61000 := by simp only [ByteArray.size_append]; have hz1 : (ByteArray.mk #[32]).size = 1 := rfl; omega
                      have hcs : opn k0 = false ∨ (opn k0 = true ∧ opn k = false) := by
                        cases h0 : opn k0 with
                        | false => exact Or.inl rfl
                        | true =>
                          cases h1 : opn k with
                          | false => exact Or.inr ⟨rfl, rfl⟩
                          | true => exact absurd ⟨h0, h1⟩ hop
                      clear hop hsp hTX hsa0 t1 t2 t3 hs0 hq0 hj hOl hsa hY hLz hqn
                      rcases hcs with h0 | ⟨h0, h1⟩
                      · rw [h0] at HJ0
                        clear h0
                        go_wp2_with (first | (go_at_call 25; (with_reducible refine (HW.out _).mono ?_); (rintro e w4 ⟨rfl, hb4⟩); (have HB4 : Hid (Below w.heap.size w w4) := Lib.hid (HB5.out.trans (hb4.mono HB5.out.size))); clear hb4) | (go_at_call 30; (with_reducible refine (HJ0.out _).mono ?_); (rintro e w5 ⟨rfl, hb5⟩); (have hba5 : Below wr.heap.size wr w5 := hb5); (have hz5 := hb5.size); (have f0 : w5.cell? ⟨g, o + q * 3, none⟩ = some (.int .i64 k) := (hba5.cell (p := ⟨g, o + q * 3, none⟩) hgr).trans b0); (have f1 : w5.cell? ⟨g, o + q * 3 + 1, none⟩ = some (.string x) := (hba5.cell (p := ⟨g, o + q * 3 + 1, none⟩) hgr).trans b1); (have f2 : w5.cell? ⟨g, o + q * 3 + 2, none⟩ = some (.int .i64 p) := (hba5.cell (p := ⟨g, o + q * 3 + 2, none⟩) hgr).trans b2); (have HB5 : Hid (Below w.heap.size w w5) := Lib.hid (HB3.out.trans (hb5.mono HB3.out.size))); clear hb5 hba5))
                        go_roundw
                        case rel => exact ⟨q + 1, hqn2, by go_num, by rw [HT.out], HB4.out⟩
                        case measure => simp [intOf]; omega
                      · rw [h0] at HJ0
                        rw [h1] at HJ1
                        clear h0 h1
                        go_wp2_with (first | (go_at_call 25; (with_reducible refine (HW.out _).mono ?_); (rintro e w4 ⟨rfl, hb4⟩); (have HB4 : Hid (Below w.heap.size w w4) := Lib.hid (HB6.out.trans (hb4.mono HB6.out.size))); clear hb4) | (go_at_call 30; (with_reducible refine (HJ0.out _).mono ?_); (rintro e w5 ⟨rfl, hb5⟩); (have hba5 : Below wr.heap.size wr w5 := hb5); (have hz5 := hb5.size); (have f0 : w5.cell? ⟨g, o + q * 3, none⟩ = some (.int .i64 k) := (hba5.cell (p := ⟨g, o + q * 3, none⟩) hgr).trans b0); (have f1 : w5.cell? ⟨g, o + q * 3 + 1, none⟩ = some (.string x) := (hba5.cell (p := ⟨g, o + q * 3 + 1, none⟩) hgr).trans b1); (have f2 : w5.cell? ⟨g, o + q * 3 + 2, none⟩ = some (.int .i64 p) := (hba5.cell (p := ⟨g, o + q * 3 + 2, none⟩) hgr).trans b2); (have HB5 : Hid (Below w.heap.size w w5) := Lib.hid (HB3.out.trans (hb5.mono HB3.out.size))); clear hb5 hba5) | (go_at_call 30; (with_reducible refine (HJ1.out _).mono ?_); (rintro e w6 ⟨rfl, hb6⟩); (have hba6 : Below w5.heap.size w5 w6 := hb6); (have g0 : w6.cell? ⟨g, o + q * 3, none⟩ = some (.int .i64 k) := (hba6.cell (p := ⟨g, o + q * 3, none⟩) (by show g < w5.heap.size; omega)).trans f0); (have g1 : w6.cell? ⟨g, o + q * 3 + 1, none⟩ = some (.string x) := (hba6.cell (p := ⟨g, o + q * 3 + 1, none⟩) (by show g < w5.heap.size; omega)).trans f1); (have g2 : w6.cell? ⟨g, o + q * 3 + 2, none⟩ = some (.int .i64 p) := (hba6.cell (p := ⟨g, o + q * 3 + 2, none⟩) (by show g < w5.heap.size; omega)).trans f2); (have HB6 : Hid (Below w.heap.size w w6) := Lib.hid (HB5.out.trans (hb6.mono HB5.out.size))); clear hb6 hba6))
                        go_roundw
                        case rel => exact ⟨q + 1, hqn2, by go_num, by rw [HT.out], HB4.out⟩
                        case measure => simp [intOf]; omega
                · have hqe : q = n := by omega
                  have hRq : R = (⟨(txB r l q).toArray⟩, 0) := by rw [hqe]; exact HRN.out
                  have HRQ := Lib.hid hRq
                  clear hb3 hLz hRq hqn hqn2
                  subst hqe
                  go_wp2_with fail
                  go_returns
                  rw [HRQ.out]
                  exact ⟨rfl, HB3.out⟩

end Go.Proofs.YtbnldpcbdeeflaaGreatDoor
