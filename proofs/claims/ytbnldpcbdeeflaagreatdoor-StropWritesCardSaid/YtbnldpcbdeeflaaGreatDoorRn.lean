/- The scanner's run of letters and digits. Condition: the scanner's cells hold the text and the regime. -/
import Derived.Test.YtbnldpcbdeeflaaGreatDoorBu
namespace Go.Proofs.YtbnldpcbdeeflaaGreatDoor
open Go.ChangeShapes Go.WideShapes Go.ChangeAt Go.RowKit

/-- A byte of a number. -/
def cu (c : Int) : UInt8 := UInt8.ofNat c.toNat
theorem cu_cells {acc : List UInt8} {c : Int} (h0 : 0 ≤ c) (h1 : c ≤ 255) : Lib.byteCells acc ++ [.int .u8 c] = Lib.byteCells (acc ++ [cu c]) := by
  unfold Lib.byteCells
  rw [List.map_append, List.map_cons, List.map_nil]
  have : ((cu c).toNat : Int) = c := by
    unfold cu
    rw [UInt8.toNat_ofNat']
    omega
  rw [this]
/-- The letters and digits of a kind from a place on, without the blanks before each, and the index behind the last one. -/
def rn (f : Int → Bool) (hf : f 0 = false) (r : Int) (t : ByteArray) (i e : Nat) : List UInt8 × Nat :=
  if h : f (ch r t i) = true then (cu (ch r t i) :: (rn f hf r t (sk t (i + 1)) (i + 1)).1, (rn f hf r t (sk t (i + 1)) (i + 1)).2) else ([], e)
termination_by t.size - i
decreasing_by
  all_goals
    have h1 : i < t.size := by
      rcases Nat.lt_or_ge i t.size with h1 | h1
      · exact h1
      · rw [ch_out h1, hf] at h; cases h
    have h2 := ru_ge bBl bBl0 t (i + 1)
    unfold sk
    omega
theorem rn_yes {f : Int → Bool} {hf : f 0 = false} {r : Int} {t : ByteArray} {i e : Nat} (h : f (ch r t i) = true) : rn f hf r t i e = (cu (ch r t i) :: (rn f hf r t (sk t (i + 1)) (i + 1)).1, (rn f hf r t (sk t (i + 1)) (i + 1)).2) := by
  rw [rn, dif_pos h]
theorem rn_no {f : Int → Bool} {hf : f 0 = false} {r : Int} {t : ByteArray} {i e : Nat} (h : f (ch r t i) = false) : rn f hf r t i e = ([], e) := by
  rw [rn, dif_neg (by rw [h]; decide)]
theorem ch_lt {f : Int → Bool} (hf : f 0 = false) {r : Int} {t : ByteArray} {i : Nat} (h : f (ch r t i) = true) : i < t.size := by
  rcases Nat.lt_or_ge i t.size with h1 | h1
  · exact h1
  · rw [ch_out h1, hf] at h; cases h
def rnF (f : Int → Bool) (hf : f 0 = false) (r : Int) (t : ByteArray) (a : Nat) : List UInt8 × Nat := rn f hf r t (sk t a) a
theorem bDi0 : bDi 0 = false := rfl
theorem bHx0 : bHx 0 = false := rfl
theorem bSd0 : bSd 0 = false := rfl
theorem sk_le {t : ByteArray} {i : Nat} (h : i ≤ t.size) : sk t i ≤ t.size := ru_le bBl bBl0 t i h
theorem sk_ge (t : ByteArray) (i : Nat) : i ≤ sk t i := ru_ge bBl bBl0 t i
set_option maxRecDepth 100000 in
set_option maxHeartbeats 4000000 in
theorem run_di (t : ByteArray) (S a : Nat) (r : Int) (w : World) (c0 : w.cell? ⟨S, 0, none⟩ = some (.string t)) (c1 : w.cell? ⟨S, 1, none⟩ = some (.int .i64 r)) (hl : t.size ≤ 100000) (ha : a ≤ t.size) :
    Calls Tryz.prog 46 #[.pointer (some ⟨S, 0, none⟩), .int .i64 (a : Int), .func (.func 42) #[] #[]] w fun e w' => e = .returned (.tuple #[.string ⟨(rnF bDi bDi0 r t a).1.toArray⟩, .int .i64 ((rnF bDi bDi0 r t a).2 : Int)]) ∧ Below w.heap.size w w' := by
  have hS := cell_lt c0
  simp only at hS
  have HC : Hid (∀ W, Below w.heap.size w W → W.cell? ⟨S, 0, none⟩ = some (.string t) ∧ W.cell? ⟨S, 1, none⟩ = some (.int .i64 r)) := Lib.hid (fun W hb => ⟨(hb.cell (p := ⟨S, 0, none⟩) hS).trans c0, (hb.cell (p := ⟨S, 1, none⟩) hS).trans c1⟩)
  have HK : Hid (∀ (i : Nat) (W : World), i ≤ 100001 → Below w.heap.size w W → Calls Tryz.prog 21 #[.pointer (some ⟨S, 0, none⟩), .int .i64 (i : Int)] W fun e w' => e = .returned (.int .i64 (sk t i : Int)) ∧ W = w') := Lib.hid (fun i W hi hb => skip_any t S i W (HC.out W hb).1 hl hi)
  have HH : Hid (∀ (i : Nat) (W : World), i ≤ 100001 → Below w.heap.size w W → Calls Tryz.prog 45 #[.pointer (some ⟨S, 0, none⟩), .int .i64 (i : Int)] W fun e w' => e = .returned (.int .u8 (ch r t i)) ∧ W = w') := Lib.hid (fun i W hi hb => char_any t S i r W (HC.out W hb).1 (HC.out W hb).2 hl (by omega))
  have HL := Lib.hid hl
  have HA := Lib.hid ha
  have ha1 : a ≤ 100001 := by omega
  have hb0 : Below w.heap.size w (w.alloc (.cells #[.pointer none, .slice none 0 0] 54)) := (Below.refl _ _).alloc (Nat.le_refl _) _
  have HB0 := Lib.hid hb0
  clear c0 c1 hl ha hb0
  go_enter Tryz.func46, Tryz.ntmps46
  go_wp2_with (go_at_call 21; (with_reducible refine (HK.out a _ ha1 HB0.out).mono ?_); rintro e w1 ⟨rfl, rfl⟩)
  go_loopw [9, 10] (fun v9 v10 wr => ∃ (acc : List UInt8) (i e : Nat), acc.length ≤ i ∧ i ≤ t.size ∧ e ≤ 100001 ∧ (acc ++ (rn bDi bDi0 r t i e).1, (rn bDi bDi0 r t i e).2) = rnF bDi bDi0 r t a ∧ v9 = .int .i64 e ∧ v10 = .int .i64 i ∧ Lib.IsBuilder 54 5 w.heap.size w.heap.size (Lib.byteCells acc) wr ∧ Below w.heap.size w wr) (fun _ v10 _ => t.size - (intOf v10).toNat)
  case atStart =>
    exact ⟨[], sk t a, a, Nat.zero_le _, sk_le HA.out, ha1, rfl, rfl, rfl, Lib.fresh_isBuilder _ _ _, HB0.out⟩
  case round =>
    obtain ⟨acc, i, e, h1, h2, h3, h4, rfl, rfl, h5, h6⟩ := hrel
    have H4 := Lib.hid h4
    have H5 := Lib.hid h5
    have H6 := Lib.hid h6
    have hi1 : i ≤ 100001 := by have := HL.out; omega
    have hc := ch_bd r t i
    have HHi := Lib.hid (HH.out i wr hi1 h6)
    obtain ⟨c, hce⟩ : ∃ c, ch r t i = c := ⟨_, rfl⟩
    have HE := Lib.hid hce
    rw [hce] at hc HHi
    have HT := Lib.hid (fun w => by_di c w hc.1 hc.2)
    have HCB := Lib.hid hc
    clear hce h4 h5 h6
    cases k : bDi c
    · rw [k] at HT
      have HR : Hid (rnF bDi bDi0 r t a = (acc, e)) := Lib.hid (by rw [← H4.out, rn_no (by rw [HE.out]; exact k), List.append_nil])
      have hsz := H6.out.size
      have HST := Lib.hid (Tryz.Builder_String_any w.heap.size w.heap.size acc wr H5.out hsz)
      clear k
      go_wp2_with (first | (go_at_call 45; (with_reducible refine HHi.out.mono ?_); rintro e' w' ⟨rfl, rfl⟩) | (go_at_call 42; (with_reducible refine (HT.out _).mono ?_); rintro e w' ⟨rfl, rfl⟩) | (go_at_call 29; (with_reducible refine HST.out.mono ?_); rintro e' w2 ⟨rfl, hb2⟩))
      go_ret2
      exact ⟨by rw [HR.out]; rfl, H6.out.trans hb2⟩
    · rw [k] at HT
      have hlt := ch_lt bDi0 (r := r) (t := t) (i := i) (by rw [HE.out]; exact k)
      have HN : Hid ((acc ++ [cu c] ++ (rn bDi bDi0 r t (sk t (i + 1)) (i + 1)).1, (rn bDi bDi0 r t (sk t (i + 1)) (i + 1)).2) = rnF bDi bDi0 r t a) := Lib.hid (by rw [← H4.out, rn_yes (f := bDi) (hf := bDi0) (e := e) (by rw [HE.out]; exact k), HE.out, List.append_assoc, List.singleton_append])
      have HW := Lib.hid (bu_write w.heap.size w.heap.size (Lib.byteCells acc) c wr H5.out (by unfold Lib.byteCells; rw [List.length_map]; have := HL.out; omega) H6.out.size)
      have HLT := Lib.hid hlt
      have HLA := Lib.hid h1
      have hi2 : i + 1 ≤ 100001 := by have := HL.out; omega
      have hi3 : (i : Int) ≤ 100000 := by have := HL.out; omega
      clear k hlt hi1 h1 h2 h3
      go_wp2_with (first | (go_at_call 45; (with_reducible refine HHi.out.mono ?_); rintro e' w' ⟨rfl, rfl⟩) | (go_at_call 42; (with_reducible refine (HT.out _).mono ?_); rintro e w' ⟨rfl, rfl⟩) | (go_at_call 85; (with_reducible refine HW.out.mono ?_); rintro e' w2 ⟨rfl, hB2, hb2⟩; (have hk2 := HK.out (i + 1) w2 hi2 (H6.out.trans hb2)); (rw [show ((i + 1 : Nat) : Int) = (i : Int) + 1 by omega] at hk2); (have HK2 := Lib.hid hk2); clear hk2; have HB2 := Lib.hid hB2; have HB3 := Lib.hid (H6.out.trans hb2); clear hB2 hb2) | (go_at_call 21; (with_reducible refine HK2.out.mono ?_); rintro e' w' ⟨rfl, rfl⟩))
      go_roundw
      case rel => exact ⟨acc ++ [cu c], sk t (i + 1), i + 1, by rw [List.length_append]; have := HLA.out; have := sk_ge t (i + 1); simp; omega, sk_le HLT.out, hi2, HN.out, by go_num, rfl, by rw [← cu_cells HCB.out.1 HCB.out.2]; exact HB2.out, HB3.out⟩
      case measure => have := sk_ge t (i + 1); have := HLT.out; simp [intOf]; omega
set_option maxRecDepth 100000 in
set_option maxHeartbeats 4000000 in
theorem run_hx (t : ByteArray) (S a : Nat) (r : Int) (w : World) (c0 : w.cell? ⟨S, 0, none⟩ = some (.string t)) (c1 : w.cell? ⟨S, 1, none⟩ = some (.int .i64 r)) (hl : t.size ≤ 100000) (ha : a ≤ t.size) :
    Calls Tryz.prog 46 #[.pointer (some ⟨S, 0, none⟩), .int .i64 (a : Int), .func (.func 123) #[] #[]] w fun e w' => e = .returned (.tuple #[.string ⟨(rnF bHx bHx0 r t a).1.toArray⟩, .int .i64 ((rnF bHx bHx0 r t a).2 : Int)]) ∧ Below w.heap.size w w' := by
  have hS := cell_lt c0
  simp only at hS
  have HC : Hid (∀ W, Below w.heap.size w W → W.cell? ⟨S, 0, none⟩ = some (.string t) ∧ W.cell? ⟨S, 1, none⟩ = some (.int .i64 r)) := Lib.hid (fun W hb => ⟨(hb.cell (p := ⟨S, 0, none⟩) hS).trans c0, (hb.cell (p := ⟨S, 1, none⟩) hS).trans c1⟩)
  have HK : Hid (∀ (i : Nat) (W : World), i ≤ 100001 → Below w.heap.size w W → Calls Tryz.prog 21 #[.pointer (some ⟨S, 0, none⟩), .int .i64 (i : Int)] W fun e w' => e = .returned (.int .i64 (sk t i : Int)) ∧ W = w') := Lib.hid (fun i W hi hb => skip_any t S i W (HC.out W hb).1 hl hi)
  have HH : Hid (∀ (i : Nat) (W : World), i ≤ 100001 → Below w.heap.size w W → Calls Tryz.prog 45 #[.pointer (some ⟨S, 0, none⟩), .int .i64 (i : Int)] W fun e w' => e = .returned (.int .u8 (ch r t i)) ∧ W = w') := Lib.hid (fun i W hi hb => char_any t S i r W (HC.out W hb).1 (HC.out W hb).2 hl (by omega))
  have HL := Lib.hid hl
  have HA := Lib.hid ha
  have ha1 : a ≤ 100001 := by omega
  have hb0 : Below w.heap.size w (w.alloc (.cells #[.pointer none, .slice none 0 0] 54)) := (Below.refl _ _).alloc (Nat.le_refl _) _
  have HB0 := Lib.hid hb0
  clear c0 c1 hl ha hb0
  go_enter Tryz.func46, Tryz.ntmps46
  go_wp2_with (go_at_call 21; (with_reducible refine (HK.out a _ ha1 HB0.out).mono ?_); rintro e w1 ⟨rfl, rfl⟩)
  go_loopw [9, 10] (fun v9 v10 wr => ∃ (acc : List UInt8) (i e : Nat), acc.length ≤ i ∧ i ≤ t.size ∧ e ≤ 100001 ∧ (acc ++ (rn bHx bHx0 r t i e).1, (rn bHx bHx0 r t i e).2) = rnF bHx bHx0 r t a ∧ v9 = .int .i64 e ∧ v10 = .int .i64 i ∧ Lib.IsBuilder 54 5 w.heap.size w.heap.size (Lib.byteCells acc) wr ∧ Below w.heap.size w wr) (fun _ v10 _ => t.size - (intOf v10).toNat)
  case atStart =>
    exact ⟨[], sk t a, a, Nat.zero_le _, sk_le HA.out, ha1, rfl, rfl, rfl, Lib.fresh_isBuilder _ _ _, HB0.out⟩
  case round =>
    obtain ⟨acc, i, e, h1, h2, h3, h4, rfl, rfl, h5, h6⟩ := hrel
    have H4 := Lib.hid h4
    have H5 := Lib.hid h5
    have H6 := Lib.hid h6
    have hi1 : i ≤ 100001 := by have := HL.out; omega
    have hc := ch_bd r t i
    have HHi := Lib.hid (HH.out i wr hi1 h6)
    obtain ⟨c, hce⟩ : ∃ c, ch r t i = c := ⟨_, rfl⟩
    have HE := Lib.hid hce
    rw [hce] at hc HHi
    have HT := Lib.hid (fun w => by_hx c w hc.1 hc.2)
    have HCB := Lib.hid hc
    clear hce h4 h5 h6
    cases k : bHx c
    · rw [k] at HT
      have HR : Hid (rnF bHx bHx0 r t a = (acc, e)) := Lib.hid (by rw [← H4.out, rn_no (by rw [HE.out]; exact k), List.append_nil])
      have hsz := H6.out.size
      have HST := Lib.hid (Tryz.Builder_String_any w.heap.size w.heap.size acc wr H5.out hsz)
      clear k
      go_wp2_with (first | (go_at_call 45; (with_reducible refine HHi.out.mono ?_); rintro e' w' ⟨rfl, rfl⟩) | (go_at_call 123; (with_reducible refine (HT.out _).mono ?_); rintro e w' ⟨rfl, rfl⟩) | (go_at_call 29; (with_reducible refine HST.out.mono ?_); rintro e' w2 ⟨rfl, hb2⟩))
      go_ret2
      exact ⟨by rw [HR.out]; rfl, H6.out.trans hb2⟩
    · rw [k] at HT
      have hlt := ch_lt bHx0 (r := r) (t := t) (i := i) (by rw [HE.out]; exact k)
      have HN : Hid ((acc ++ [cu c] ++ (rn bHx bHx0 r t (sk t (i + 1)) (i + 1)).1, (rn bHx bHx0 r t (sk t (i + 1)) (i + 1)).2) = rnF bHx bHx0 r t a) := Lib.hid (by rw [← H4.out, rn_yes (f := bHx) (hf := bHx0) (e := e) (by rw [HE.out]; exact k), HE.out, List.append_assoc, List.singleton_append])
      have HW := Lib.hid (bu_write w.heap.size w.heap.size (Lib.byteCells acc) c wr H5.out (by unfold Lib.byteCells; rw [List.length_map]; have := HL.out; omega) H6.out.size)
      have HLT := Lib.hid hlt
      have HLA := Lib.hid h1
      have hi2 : i + 1 ≤ 100001 := by have := HL.out; omega
      have hi3 : (i : Int) ≤ 100000 := by have := HL.out; omega
      clear k hlt hi1 h1 h2 h3
      go_wp2_with (first | (go_at_call 45; (with_reducible refine HHi.out.mono ?_); rintro e' w' ⟨rfl, rfl⟩) | (go_at_call 123; (with_reducible refine (HT.out _).mono ?_); rintro e w' ⟨rfl, rfl⟩) | (go_at_call 85; (with_reducible refine HW.out.mono ?_); rintro e' w2 ⟨rfl, hB2, hb2⟩; (have hk2 := HK.out (i + 1) w2 hi2 (H6.out.trans hb2)); (rw [show ((i + 1 : Nat) : Int) = (i : Int) + 1 by omega] at hk2); (have HK2 := Lib.hid hk2); clear hk2; have HB2 := Lib.hid hB2; have HB3 := Lib.hid (H6.out.trans hb2); clear hB2 hb2) | (go_at_call 21; (with_reducible refine HK2.out.mono ?_); rintro e' w' ⟨rfl, rfl⟩))
      go_roundw
      case rel => exact ⟨acc ++ [cu c], sk t (i + 1), i + 1, by rw [List.length_append]; have := HLA.out; have := sk_ge t (i + 1); simp; omega, sk_le HLT.out, hi2, HN.out, by go_num, rfl, by rw [← cu_cells HCB.out.1 HCB.out.2]; exact HB2.out, HB3.out⟩
      case measure => have := sk_ge t (i + 1); have := HLT.out; simp [intOf]; omega
set_option maxRecDepth 100000 in
set_option maxHeartbeats 4000000 in
theorem run_sd (t : ByteArray) (S a : Nat) (r : Int) (w : World) (c0 : w.cell? ⟨S, 0, none⟩ = some (.string t)) (c1 : w.cell? ⟨S, 1, none⟩ = some (.int .i64 r)) (hl : t.size ≤ 100000) (ha : a ≤ t.size) :
    Calls Tryz.prog 46 #[.pointer (some ⟨S, 0, none⟩), .int .i64 (a : Int), .func (.func 47) #[] #[]] w fun e w' => e = .returned (.tuple #[.string ⟨(rnF bSd bSd0 r t a).1.toArray⟩, .int .i64 ((rnF bSd bSd0 r t a).2 : Int)]) ∧ Below w.heap.size w w' := by
  have hS := cell_lt c0
  simp only at hS
  have HC : Hid (∀ W, Below w.heap.size w W → W.cell? ⟨S, 0, none⟩ = some (.string t) ∧ W.cell? ⟨S, 1, none⟩ = some (.int .i64 r)) := Lib.hid (fun W hb => ⟨(hb.cell (p := ⟨S, 0, none⟩) hS).trans c0, (hb.cell (p := ⟨S, 1, none⟩) hS).trans c1⟩)
  have HK : Hid (∀ (i : Nat) (W : World), i ≤ 100001 → Below w.heap.size w W → Calls Tryz.prog 21 #[.pointer (some ⟨S, 0, none⟩), .int .i64 (i : Int)] W fun e w' => e = .returned (.int .i64 (sk t i : Int)) ∧ W = w') := Lib.hid (fun i W hi hb => skip_any t S i W (HC.out W hb).1 hl hi)
  have HH : Hid (∀ (i : Nat) (W : World), i ≤ 100001 → Below w.heap.size w W → Calls Tryz.prog 45 #[.pointer (some ⟨S, 0, none⟩), .int .i64 (i : Int)] W fun e w' => e = .returned (.int .u8 (ch r t i)) ∧ W = w') := Lib.hid (fun i W hi hb => char_any t S i r W (HC.out W hb).1 (HC.out W hb).2 hl (by omega))
  have HL := Lib.hid hl
  have HA := Lib.hid ha
  have ha1 : a ≤ 100001 := by omega
  have hb0 : Below w.heap.size w (w.alloc (.cells #[.pointer none, .slice none 0 0] 54)) := (Below.refl _ _).alloc (Nat.le_refl _) _
  have HB0 := Lib.hid hb0
  clear c0 c1 hl ha hb0
  go_enter Tryz.func46, Tryz.ntmps46
  go_wp2_with (go_at_call 21; (with_reducible refine (HK.out a _ ha1 HB0.out).mono ?_); rintro e w1 ⟨rfl, rfl⟩)
  go_loopw [9, 10] (fun v9 v10 wr => ∃ (acc : List UInt8) (i e : Nat), acc.length ≤ i ∧ i ≤ t.size ∧ e ≤ 100001 ∧ (acc ++ (rn bSd bSd0 r t i e).1, (rn bSd bSd0 r t i e).2) = rnF bSd bSd0 r t a ∧ v9 = .int .i64 e ∧ v10 = .int .i64 i ∧ Lib.IsBuilder 54 5 w.heap.size w.heap.size (Lib.byteCells acc) wr ∧ Below w.heap.size w wr) (fun _ v10 _ => t.size - (intOf v10).toNat)
  case atStart =>
    exact ⟨[], sk t a, a, Nat.zero_le _, sk_le HA.out, ha1, rfl, rfl, rfl, Lib.fresh_isBuilder _ _ _, HB0.out⟩
  case round =>
    obtain ⟨acc, i, e, h1, h2, h3, h4, rfl, rfl, h5, h6⟩ := hrel
    have H4 := Lib.hid h4
    have H5 := Lib.hid h5
    have H6 := Lib.hid h6
    have hi1 : i ≤ 100001 := by have := HL.out; omega
    have hc := ch_bd r t i
    have HHi := Lib.hid (HH.out i wr hi1 h6)
    obtain ⟨c, hce⟩ : ∃ c, ch r t i = c := ⟨_, rfl⟩
    have HE := Lib.hid hce
    rw [hce] at hc HHi
    have HT := Lib.hid (fun w => by_sd c w hc.1 hc.2)
    have HCB := Lib.hid hc
    clear hce h4 h5 h6
    cases k : bSd c
    · rw [k] at HT
      have HR : Hid (rnF bSd bSd0 r t a = (acc, e)) := Lib.hid (by rw [← H4.out, rn_no (by rw [HE.out]; exact k), List.append_nil])
      have hsz := H6.out.size
      have HST := Lib.hid (Tryz.Builder_String_any w.heap.size w.heap.size acc wr H5.out hsz)
      clear k
      go_wp2_with (first | (go_at_call 45; (with_reducible refine HHi.out.mono ?_); rintro e' w' ⟨rfl, rfl⟩) | (go_at_call 47; (with_reducible refine (HT.out _).mono ?_); rintro e w' ⟨rfl, rfl⟩) | (go_at_call 29; (with_reducible refine HST.out.mono ?_); rintro e' w2 ⟨rfl, hb2⟩))
      go_ret2
      exact ⟨by rw [HR.out]; rfl, H6.out.trans hb2⟩
    · rw [k] at HT
      have hlt := ch_lt bSd0 (r := r) (t := t) (i := i) (by rw [HE.out]; exact k)
      have HN : Hid ((acc ++ [cu c] ++ (rn bSd bSd0 r t (sk t (i + 1)) (i + 1)).1, (rn bSd bSd0 r t (sk t (i + 1)) (i + 1)).2) = rnF bSd bSd0 r t a) := Lib.hid (by rw [← H4.out, rn_yes (f := bSd) (hf := bSd0) (e := e) (by rw [HE.out]; exact k), HE.out, List.append_assoc, List.singleton_append])
      have HW := Lib.hid (bu_write w.heap.size w.heap.size (Lib.byteCells acc) c wr H5.out (by unfold Lib.byteCells; rw [List.length_map]; have := HL.out; omega) H6.out.size)
      have HLT := Lib.hid hlt
      have HLA := Lib.hid h1
      have hi2 : i + 1 ≤ 100001 := by have := HL.out; omega
      have hi3 : (i : Int) ≤ 100000 := by have := HL.out; omega
      clear k hlt hi1 h1 h2 h3
      go_wp2_with (first | (go_at_call 45; (with_reducible refine HHi.out.mono ?_); rintro e' w' ⟨rfl, rfl⟩) | (go_at_call 47; (with_reducible refine (HT.out _).mono ?_); rintro e w' ⟨rfl, rfl⟩) | (go_at_call 85; (with_reducible refine HW.out.mono ?_); rintro e' w2 ⟨rfl, hB2, hb2⟩; (have hk2 := HK.out (i + 1) w2 hi2 (H6.out.trans hb2)); (rw [show ((i + 1 : Nat) : Int) = (i : Int) + 1 by omega] at hk2); (have HK2 := Lib.hid hk2); clear hk2; have HB2 := Lib.hid hB2; have HB3 := Lib.hid (H6.out.trans hb2); clear hB2 hb2) | (go_at_call 21; (with_reducible refine HK2.out.mono ?_); rintro e' w' ⟨rfl, rfl⟩))
      go_roundw
      case rel => exact ⟨acc ++ [cu c], sk t (i + 1), i + 1, by rw [List.length_append]; have := HLA.out; have := sk_ge t (i + 1); simp; omega, sk_le HLT.out, hi2, HN.out, by go_num, rfl, by rw [← cu_cells HCB.out.1 HCB.out.2]; exact HB2.out, HB3.out⟩
      case measure => have := sk_ge t (i + 1); have := HLT.out; simp [intOf]; omega
end Go.Proofs.YtbnldpcbdeeflaaGreatDoor
