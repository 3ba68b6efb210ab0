/- The reference's bold words. Condition: the scanner's cells hold the text and the regime. -/
import Derived.Test.YtbnldpcbdeeflaaGreatDoorRt
namespace Go.Proofs.YtbnldpcbdeeflaaGreatDoor
open Go.ChangeShapes Go.WideShapes Go.ChangeAt Go.RowKit

theorem up_ra : ∀ n : Fin 256, Lib.upperB (UInt8.ofNat n.val) = cu (raA (n.val : Int)) := by decide +kernel
theorem up_cd : ∀ n : Fin 256, bCd (n.val : Int) = true → Lib.upperB (UInt8.ofNat n.val) = UInt8.ofNat n.val := by decide +kernel
theorem up_pk {t : ByteArray} {j : Nat} (h : j < t.size) : Lib.upperB t[j] = cu (raA (pk t j)) := by
  have := up_ra ⟨t[j].toNat, t[j].toNat_lt⟩
  simp only [UInt8.ofNat_toNat] at this
  rw [this, pk_in h]
/-- A piece of a text in capital letters, as a list. -/
def upL (t : ByteArray) (i j : Nat) : List UInt8 := Lib.toUpperA (List.take (j - i) (List.drop i t.data.toList))
theorem upL_succ {t : ByteArray} {i j : Nat} (h : i ≤ j) (hj : j < t.size) : upL t i (j + 1) = upL t i j ++ [cu (raA (pk t j))] := by
  unfold upL Lib.toUpperA
  rw [show j + 1 - i = (j - i) + 1 by omega, List.take_add_one, List.map_append, List.getElem?_drop, show i + (j - i) = j by omega]
  rw [List.getElem?_eq_getElem (by rw [Array.length_toList]; exact hj)]
  simp only [Option.toList_some, List.map_cons, List.map_nil]
  congr 2
  exact up_pk hj
theorem upL_nil (t : ByteArray) (i : Nat) : upL t i i = [] := by unfold upL; rw [Nat.sub_self]; rfl
theorem upL_len (t : ByteArray) (i j : Nat) : (upL t i j).length ≤ j - i := by
  unfold upL Lib.toUpperA
  rw [List.length_map, List.length_take]
  omega
theorem upL_ext {t : ByteArray} {i : Nat} (hi : i ≤ t.size) : (⟨(upL t i (ru bCd bCd0 t i)).toArray⟩ : ByteArray) = t.extract i (ru bCd bCd0 t i) := by
  apply bytes_inj
  rw [Lib.extract_data]
  show upL t i _ = _
  unfold upL Lib.toUpperA
  have hle := ru_le bCd bCd0 t i hi
  conv => rhs; rw [← List.map_id (List.take _ _)]
  apply List.map_congr_left
  intro b hb
  obtain ⟨j, hj⟩ := List.getElem?_of_mem hb
  rw [List.getElem?_take] at hj
  split at hj
  · rw [List.getElem?_drop] at hj
    rename_i hlt
    have hjt : i + j < t.size := by omega
    rw [List.getElem?_eq_getElem (by rw [Array.length_toList]; exact hjt)] at hj
    have hc := ru_all bCd bCd0 t i (i + j) (by omega) (by omega)
    rw [pk_in hjt] at hc
    have := up_cd ⟨t[i + j].toNat, t[i + j].toNat_lt⟩ hc
    simp only [UInt8.ofNat_toNat] at this
    have hb2 : b = t[i + j] := (Option.some.inj hj).symm
    rw [hb2]
    exact this
  · cases hj
theorem lt_le {r c : Int} (h : r ≠ 0) : ltB r c = bLe c := by
  unfold ltB bLe
  rw [decide_eq_true h, Bool.true_and]
theorem ra_bd {c : Int} (h0 : 0 ≤ c) (h1 : c ≤ 255) : 0 ≤ raA c ∧ raA c ≤ 255 := by
  unfold raA
  split
  · rename_i h
    have h1 : 97 ≤ c ∧ c ≤ 122 := of_decide_eq_true h
    omega
  · exact ⟨h0, h1⟩
set_option maxRecDepth 100000 in
set_option maxHeartbeats 4000000 in
theorem rbold_u0 (t : ByteArray) (S i : Nat) (w : World) (c0 : w.cell? ⟨S, 0, none⟩ = some (.string t)) (c2 : w.cell? ⟨S, 2, none⟩ = some (.int .i64 0)) (hl : t.size ≤ 100000) (hi : i ≤ t.size) (hn : bCa (pk t i) = false) :
    Calls Tryz.prog 56 #[.pointer (some ⟨S, 0, none⟩), .int .i64 (i : Int)] w fun e w' => e = .returned (.tuple #[.string ⟨#[]⟩, .int .i64 (i : Int)]) ∧ Below w.heap.size w w' := by
  have hp := pk_bd t i
  have h1 := at_any t S i w c0 hl (by omega)
  obtain ⟨p, hpe⟩ : ∃ p, pk t i = p := ⟨_, rfl⟩
  rw [hpe] at hp h1 hn
  have h2 := fun w => rb_ca p w hp.1 hp.2
  rw [hn] at h2
  have H1 := Lib.hid h1
  have H2 := Lib.hid h2
  clear h1 h2 hpe hn
  go_enter Tryz.func56, Tryz.ntmps56
  go_wp2_with (first | (go_at_call 60; (with_reducible refine (H1.out).mono ?_); rintro e w' ⟨rfl, rfl⟩) | (go_at_call 95; (with_reducible refine (H2.out _).mono ?_); rintro e w' ⟨rfl, rfl⟩))
  go_ret2
  exact ⟨rfl, Below.refl _ _⟩
set_option maxRecDepth 100000 in
set_option maxHeartbeats 4000000 in
theorem rbold_p0 (t : ByteArray) (S i : Nat) (w : World) (c0 : w.cell? ⟨S, 0, none⟩ = some (.string t)) (c2 : w.cell? ⟨S, 2, none⟩ = some (.int .i64 1)) (hl : t.size ≤ 100000) (hi : i ≤ t.size) (hn : pk t i ≠ 46) :
    Calls Tryz.prog 56 #[.pointer (some ⟨S, 0, none⟩), .int .i64 (i : Int)] w fun e w' => e = .returned (.tuple #[.string ⟨#[]⟩, .int .i64 (i : Int)]) ∧ Below w.heap.size w w' := by
  have hp := pk_bd t i
  have h1 := at_any t S i w c0 hl (by omega)
  obtain ⟨p, hpe⟩ : ∃ p, pk t i = p := ⟨_, rfl⟩
  rw [hpe] at hp h1 hn
  have hn2 : (p != 46) = true := by rw [bne_iff_ne]; exact hn
  have H1 := Lib.hid h1
  clear h1 hpe hn
  go_enter Tryz.func56, Tryz.ntmps56
  go_wp2_with (first | (go_at_call 60; (with_reducible refine (H1.out).mono ?_); rintro e w' ⟨rfl, rfl⟩))
  go_ret2
  exact ⟨rfl, Below.refl _ _⟩
set_option maxRecDepth 100000 in
set_option maxHeartbeats 4000000 in
theorem rbold_p1 (t : ByteArray) (S i : Nat) (w : World) (c0 : w.cell? ⟨S, 0, none⟩ = some (.string t)) (c2 : w.cell? ⟨S, 2, none⟩ = some (.int .i64 1)) (hl : t.size ≤ 100000) (hi : i ≤ t.size) (hp : pk t i = 46) (hn : bLe (pk t (i + 1)) = false) :
    Calls Tryz.prog 56 #[.pointer (some ⟨S, 0, none⟩), .int .i64 (i : Int)] w fun e w' => e = .returned (.tuple #[.string ⟨#[]⟩, .int .i64 (i : Int)]) ∧ Below w.heap.size w w' := by
  have h1 := at_any t S i w c0 hl (by omega)
  have h3 := at_any t S (i + 1) w c0 hl (by omega)
  have hq := pk_bd t (i + 1)
  rw [hp] at h1
  obtain ⟨q, hqe⟩ : ∃ p, pk t (i + 1) = p := ⟨_, rfl⟩
  rw [hqe] at hq h3 hn
  rw [show ((i + 1 : Nat) : Int) = (i : Int) + 1 by omega] at h3
  have h2 := letter_any S 1 q w c2 hq.1 hq.2
  rw [lt_le (by decide), hn] at h2
  have H1 := Lib.hid h1
  have H2 := Lib.hid h2
  have H3 := Lib.hid h3
  clear h1 h2 h3 hp hqe hn
  go_enter Tryz.func56, Tryz.ntmps56
  go_wp2_with (first | (go_at_call 60; (with_reducible refine (H1.out).mono ?_); rintro e w' ⟨rfl, rfl⟩) | (go_at_call 60; (with_reducible refine (H3.out).mono ?_); rintro e w' ⟨rfl, rfl⟩) | (go_at_call 62; (with_reducible refine (H2.out).mono ?_); rintro e w' ⟨rfl, rfl⟩))
  go_ret2
  exact ⟨rfl, Below.refl _ _⟩
set_option maxRecDepth 100000 in
set_option maxHeartbeats 4000000 in
theorem rbold_q0 (t : ByteArray) (S i : Nat) (w : World) (c0 : w.cell? ⟨S, 0, none⟩ = some (.string t)) (c2 : w.cell? ⟨S, 2, none⟩ = some (.int .i64 2)) (hl : t.size ≤ 100000) (hi : i ≤ t.size) (hn : pk t i ≠ 39) :
    Calls Tryz.prog 56 #[.pointer (some ⟨S, 0, none⟩), .int .i64 (i : Int)] w fun e w' => e = .returned (.tuple #[.string ⟨#[]⟩, .int .i64 (i : Int)]) ∧ Below w.heap.size w w' := by
  have hp := pk_bd t i
  have h1 := at_any t S i w c0 hl (by omega)
  obtain ⟨p, hpe⟩ : ∃ p, pk t i = p := ⟨_, rfl⟩
  rw [hpe] at hp h1 hn
  have hn2 : (p != 39) = true := by rw [bne_iff_ne]; exact hn
  have H1 := Lib.hid h1
  clear h1 hpe hn
  go_enter Tryz.func56, Tryz.ntmps56
  go_wp2_with (first | (go_at_call 60; (with_reducible refine (H1.out).mono ?_); rintro e w' ⟨rfl, rfl⟩))
  go_ret2
  exact ⟨rfl, Below.refl _ _⟩
set_option maxRecDepth 100000 in
set_option maxHeartbeats 4000000 in
theorem rbold_q1 (t : ByteArray) (S i : Nat) (w : World) (c0 : w.cell? ⟨S, 0, none⟩ = some (.string t)) (c2 : w.cell? ⟨S, 2, none⟩ = some (.int .i64 2)) (hl : t.size ≤ 100000) (hi : i ≤ t.size) (hp : pk t i = 39) (hn : bLe (pk t (i + 1)) = false) :
    Calls Tryz.prog 56 #[.pointer (some ⟨S, 0, none⟩), .int .i64 (i : Int)] w fun e w' => e = .returned (.tuple #[.string ⟨#[]⟩, .int .i64 (i : Int)]) ∧ Below w.heap.size w w' := by
  have h1 := at_any t S i w c0 hl (by omega)
  have h3 := at_any t S (i + 1) w c0 hl (by omega)
  have hq := pk_bd t (i + 1)
  rw [hp] at h1
  obtain ⟨q, hqe⟩ : ∃ p, pk t (i + 1) = p := ⟨_, rfl⟩
  rw [hqe] at hq h3 hn
  rw [show ((i + 1 : Nat) : Int) = (i : Int) + 1 by omega] at h3
  have h2 := letter_any S 2 q w c2 hq.1 hq.2
  rw [lt_le (by decide), hn] at h2
  have H1 := Lib.hid h1
  have H2 := Lib.hid h2
  have H3 := Lib.hid h3
  clear h1 h2 h3 hp hqe hn
  go_enter Tryz.func56, Tryz.ntmps56
  go_wp2_with (first | (go_at_call 60; (with_reducible refine (H1.out).mono ?_); rintro e w' ⟨rfl, rfl⟩) | (go_at_call 60; (with_reducible refine (H3.out).mono ?_); rintro e w' ⟨rfl, rfl⟩) | (go_at_call 62; (with_reducible refine (H2.out).mono ?_); rintro e w' ⟨rfl, rfl⟩))
  go_ret2
  exact ⟨rfl, Below.refl _ _⟩
set_option maxRecDepth 100000 in
set_option maxHeartbeats 4000000 in
theorem rbold_u1 (t : ByteArray) (S i : Nat) (w : World) (c0 : w.cell? ⟨S, 0, none⟩ = some (.string t)) (c2 : w.cell? ⟨S, 2, none⟩ = some (.int .i64 0)) (hl : t.size ≤ 100000) (hi : i ≤ t.size) (hp : bCa (pk t i) = true) :
    Calls Tryz.prog 56 #[.pointer (some ⟨S, 0, none⟩), .int .i64 (i : Int)] w fun e w' => e = .returned (.tuple #[.string (t.extract i (ru bCd bCd0 t i)), .int .i64 ((ru bCd bCd0 t i) : Int)]) ∧ Below w.heap.size w w' := by
  have hS := cell_lt c0
  simp only at hS
  have HCC : Hid (∀ W, Below w.heap.size w W → W.cell? ⟨S, 0, none⟩ = some (.string t) ∧ W.cell? ⟨S, 2, none⟩ = some (.int .i64 0)) := Lib.hid (fun W hb => ⟨(hb.cell (p := ⟨S, 0, none⟩) hS).trans c0, (hb.cell (p := ⟨S, 2, none⟩) hS).trans c2⟩)
  have HAT := Lib.hid (fun k (hk : k ≤ t.size) => at_any t S k w c0 hl (by omega))
  have hle := ru_le bCd bCd0 t i hi
  have hge := ru_ge bCd bCd0 t i
  have HX := Lib.hid (upL_ext hi)
  have hp0 := pk_bd t i
  have h1 := HAT.out i hi
  obtain ⟨pi, hpie⟩ : ∃ p, pk t i = p := ⟨_, rfl⟩
  rw [hpie] at hp h1 hp0
  have h2 := fun w => rb_ca pi w hp0.1 hp0.2
  rw [hp] at h2
  have H1 := Lib.hid h1
  have H2 := Lib.hid h2
  obtain ⟨e, he⟩ : ∃ e, ru bCd bCd0 t i = e := ⟨_, rfl⟩
  have HE := Lib.hid he
  rw [he] at hle hge HX ⊢
  clear h1 h2 hpie hp he
  go_enter Tryz.func56, Tryz.ntmps56
  go_wp2_with (first | (go_at_call 60; (with_reducible refine (H1.out).mono ?_); rintro e w' ⟨rfl, rfl⟩) | (go_at_call 95; (with_reducible refine (H2.out _).mono ?_); rintro e w' ⟨rfl, rfl⟩))
  go_loop [7] (fun v7 => ∃ k : Nat, i ≤ k ∧ k ≤ t.size ∧ ru bCd bCd0 t k = e ∧ v7 = .int .i64 k) (fun v7 => t.size - (intOf v7).toNat)
  case atStart => exact ⟨i, Nat.le_refl _, hi, HE.out, by go_num⟩
  case round =>
    obtain ⟨k, hk1, hk2, hk3, rfl⟩ := hrel
    have HK3 := Lib.hid hk3
    have hp := pk_bd t k
    have h3 := HAT.out k hk2
    obtain ⟨p, hpe⟩ : ∃ p, pk t k = p := ⟨_, rfl⟩
    have HP := Lib.hid hpe
    rw [hpe] at hp h3
    have H3 := Lib.hid h3
    have h4 := fun w => rb_ca p w hp.1 hp.2
    have h5 := fun w => rb_di p w hp.1 hp.2
    clear hk3 h3 hpe
    cases ha : bCa p
    · cases hd : bDi p
      · have hke : k = e := by rw [← HK3.out]; exact (ru_no (by rw [HP.out]; unfold bCd; rw [ha, hd]; rfl)).symm
        rw [ha] at h4
        rw [hd] at h5
        have H4 := Lib.hid h4
        have H5 := Lib.hid h5
        clear h4 h5 ha hd
        subst hke
        go_wp2_with (first | (go_at_call 60; (with_reducible refine (H3.out).mono ?_); rintro e w' ⟨rfl, rfl⟩) | (go_at_call 95; (with_reducible refine (H4.out _).mono ?_); rintro e w' ⟨rfl, rfl⟩) | (go_at_call 59; (with_reducible refine (H5.out _).mono ?_); rintro e w' ⟨rfl, rfl⟩))
        go_loopw [8, 9] (fun v8 v9 wr => ∃ j : Nat, i ≤ j ∧ j ≤ k ∧ v8 = .string ⟨(upL t i j).toArray⟩ ∧ v9 = .int .i64 j ∧ Below w.heap.size w wr) (fun _ v9 _ => k - (intOf v9).toNat)
        case atStart => exact ⟨i, Nat.le_refl _, by omega, by rw [upL_nil], by go_num, Below.refl _ w⟩
        case round =>
          obtain ⟨j, hj1, hj2, rfl, rfl, hbj⟩ := hrel
          have hlen := upL_len t i j
          have HC := Lib.hid (HCC.out wr hbj)
          have d0 := HC.out.1
          have d2 := HC.out.2
          have hwz := hbj.size
          have HBJ := Lib.hid hbj
          clear hbj
          by_cases hje : j < k
          · have hjt : j < t.size := by omega
            have hp := pk_bd t j
            have hpi := (pk_in hjt).symm
            obtain ⟨y, hy⟩ : ∃ y, (⟨(upL t i j).toArray⟩ : ByteArray) = y := ⟨_, rfl⟩
            have hys : y.size ≤ 200000 := by rw [← hy]; show (upL t i j).toArray.size ≤ _; rw [List.size_toArray]; omega
            have HN := Lib.hid (show (⟨(upL t i (j + 1)).toArray⟩ : ByteArray) = y ++ ⟨#[cu (raA (pk t j))]⟩ by rw [← hy, app_one, upL_succ hj1 hjt])
            rw [hy]
            obtain ⟨p, hpe⟩ : ∃ p, pk t j = p := ⟨_, rfl⟩
            rw [hpe] at hp hpi HN
            have hrb := ra_bd hp.1 hp.2
            have H9 := Lib.hid (fun w => rb_ra p w hp.1 hp.2)
            have HCV := fun W => conv_one (raA p) hrb.1 hrb.2 W
            obtain ⟨g, hg⟩ : ∃ g, raA p = g := ⟨_, rfl⟩
            rw [hg] at H9 HCV HN
            clear hy hpe hg
            go_wp2_with (first | (go_at_call 96; (with_reducible refine (H9.out _).mono ?_); rintro e w' ⟨rfl, rfl⟩))
            go_roundw
            case rel => exact ⟨j + 1, by omega, by omega, by rw [HN.out], by go_num, HBJ.out.alloc hwz _⟩
            case measure => simp [intOf]; omega
          · have hje2 : j = k := by omega
            subst hje2
            go_wp2
            go_ret2
            exact ⟨by rw [HX.out]; rfl, HBJ.out⟩
      · have hlt : k < t.size := lt_of_yes bCd0 (t := t) (i := k) (by rw [HP.out]; unfold bCd; rw [hd, Bool.or_true])
        have HN := Lib.hid (show ru bCd bCd0 t (k + 1) = e by rw [← HK3.out]; exact (ru_yes (by rw [HP.out]; unfold bCd; rw [hd, Bool.or_true])).symm)
        rw [ha] at h4
        rw [hd] at h5
        have H4 := Lib.hid h4
        have H5 := Lib.hid h5
        clear h4 h5 ha hd
        go_wp2_with (first | (go_at_call 60; (with_reducible refine (H3.out).mono ?_); rintro e w' ⟨rfl, rfl⟩) | (go_at_call 95; (with_reducible refine (H4.out _).mono ?_); rintro e w' ⟨rfl, rfl⟩) | (go_at_call 59; (with_reducible refine (H5.out _).mono ?_); rintro e w' ⟨rfl, rfl⟩))
        go_round
        case rel => exact ⟨k + 1, by omega, hlt, HN.out, by go_num⟩
        case measure => simp [intOf]; omega
    · have hlt : k < t.size := lt_of_yes bCd0 (t := t) (i := k) (by rw [HP.out]; unfold bCd; rw [ha, Bool.true_or])
      have HN := Lib.hid (show ru bCd bCd0 t (k + 1) = e by rw [← HK3.out]; exact (ru_yes (by rw [HP.out]; unfold bCd; rw [ha, Bool.true_or])).symm)
      rw [ha] at h4
      have H4 := Lib.hid h4
      clear h4 h5 ha
      go_wp2_with (first | (go_at_call 60; (with_reducible refine (H3.out).mono ?_); rintro e w' ⟨rfl, rfl⟩) | (go_at_call 95; (with_reducible refine (H4.out _).mono ?_); rintro e w' ⟨rfl, rfl⟩))
      go_round
      case rel => exact ⟨k + 1, by omega, hlt, HN.out, by go_num⟩
      case measure => simp [intOf]; omega
set_option maxRecDepth 100000 in
set_option maxHeartbeats 4000000 in
theorem rbold_p2 (t : ByteArray) (S i : Nat) (w : World) (c0 : w.cell? ⟨S, 0, none⟩ = some (.string t)) (c2 : w.cell? ⟨S, 2, none⟩ = some (.int .i64 1)) (hl : t.size ≤ 100000) (hi : i ≤ t.size) (hp : pk t i = 46) (hn : bLe (pk t (i + 1)) = true) :
    Calls Tryz.prog 56 #[.pointer (some ⟨S, 0, none⟩), .int .i64 (i : Int)] w fun e w' => e = .returned (.tuple #[.string (upW t (i + 1) (ru bLd bLd0 t (i + 1))), .int .i64 ((ru bLd bLd0 t (i + 1)) : Int)]) ∧ Below w.heap.size w w' := by
  have hS := cell_lt c0
  simp only at hS
  have HCC : Hid (∀ W, Below w.heap.size w W → W.cell? ⟨S, 0, none⟩ = some (.string t) ∧ W.cell? ⟨S, 2, none⟩ = some (.int .i64 1)) := Lib.hid (fun W hb => ⟨(hb.cell (p := ⟨S, 0, none⟩) hS).trans c0, (hb.cell (p := ⟨S, 2, none⟩) hS).trans c2⟩)
  have HAT := Lib.hid (fun k (hk : k ≤ t.size) => at_any t S k w c0 hl (by omega))
  have HLT := Lib.hid (fun p h0 h1 => letter_any S 1 p w c2 h0 h1)
  have hi1 : i + 1 < t.size := lt_of_yes bLd0 (t := t) (i := i + 1) (by unfold bLd; rw [hn, Bool.true_or])
  have hle := ru_le bLd bLd0 t (i + 1) (by omega)
  have hge := ru_ge bLd bLd0 t (i + 1)
  have h1 := HAT.out i hi
  rw [hp] at h1
  have h3 := HAT.out (i + 1) (by omega)
  have hq := pk_bd t (i + 1)
  obtain ⟨q, hqe⟩ : ∃ p, pk t (i + 1) = p := ⟨_, rfl⟩
  rw [hqe] at hq h3 hn
  rw [show ((i + 1 : Nat) : Int) = (i : Int) + 1 by omega] at h3
  have h2 := HLT.out q hq.1 hq.2
  rw [lt_le (by decide), hn] at h2
  have H1 := Lib.hid h1
  have H2 := Lib.hid h2
  have H3 := Lib.hid h3
  obtain ⟨e, he⟩ : ∃ e, ru bLd bLd0 t (i + 1) = e := ⟨_, rfl⟩
  have HE := Lib.hid he
  rw [he] at hle hge ⊢
  clear h1 h2 h3 hqe hp hn he
  go_enter Tryz.func56, Tryz.ntmps56
  go_wp2_with (first | (go_at_call 60; (with_reducible refine (H1.out).mono ?_); rintro e w' ⟨rfl, rfl⟩) | (go_at_call 60; (with_reducible refine (H3.out).mono ?_); rintro e w' ⟨rfl, rfl⟩) | (go_at_call 62; (with_reducible refine (H2.out).mono ?_); rintro e w' ⟨rfl, rfl⟩))
  go_loop [7] (fun v7 => ∃ k : Nat, i + 1 ≤ k ∧ k ≤ t.size ∧ ru bLd bLd0 t k = e ∧ v7 = .int .i64 k) (fun v7 => t.size - (intOf v7).toNat)
  case atStart => exact ⟨i + 1, Nat.le_refl _, by omega, HE.out, by go_num⟩
  case round =>
    obtain ⟨k, hk1, hk2, hk3, rfl⟩ := hrel
    have HK3 := Lib.hid hk3
    have hp := pk_bd t k
    have h3 := HAT.out k hk2
    obtain ⟨p, hpe⟩ : ∃ p, pk t k = p := ⟨_, rfl⟩
    have HP := Lib.hid hpe
    rw [hpe] at hp h3
    have H6 := Lib.hid h3
    have h4 := HLT.out p hp.1 hp.2
    rw [lt_le (by decide)] at h4
    have h5 := fun w => rb_di p w hp.1 hp.2
    clear hk3 h3 hpe
    cases ha : bLe p
    · cases hd : bDi p
      · have hke : k = e := by rw [← HK3.out]; exact (ru_no (by rw [HP.out]; unfold bLd; rw [ha, hd]; rfl)).symm
        rw [ha] at h4
        rw [hd] at h5
        have H4 := Lib.hid h4
        have H5 := Lib.hid h5
        clear h4 h5 ha hd
        subst hke
        go_wp2_with (first | (go_at_call 60; (with_reducible refine (H6.out).mono ?_); rintro e w' ⟨rfl, rfl⟩) | (go_at_call 62; (with_reducible refine (H4.out).mono ?_); rintro e w' ⟨rfl, rfl⟩) | (go_at_call 59; (with_reducible refine (H5.out _).mono ?_); rintro e w' ⟨rfl, rfl⟩))
        go_loopw [8, 9] (fun v8 v9 wr => ∃ j : Nat, (i + 1) ≤ j ∧ j ≤ k ∧ v8 = .string ⟨(upL t (i + 1) j).toArray⟩ ∧ v9 = .int .i64 j ∧ Below w.heap.size w wr) (fun _ v9 _ => k - (intOf v9).toNat)
        case atStart => exact ⟨(i + 1), Nat.le_refl _, by omega, by rw [upL_nil], by go_num, Below.refl _ w⟩
        case round =>
          obtain ⟨j, hj1, hj2, rfl, rfl, hbj⟩ := hrel
          have hlen := upL_len t (i + 1) j
          have HC := Lib.hid (HCC.out wr hbj)
          have d0 := HC.out.1
          have d2 := HC.out.2
          have hwz := hbj.size
          have HBJ := Lib.hid hbj
          clear hbj
          by_cases hje : j < k
          · have hjt : j < t.size := by omega
            have hp := pk_bd t j
            have hpi := (pk_in hjt).symm
            obtain ⟨y, hy⟩ : ∃ y, (⟨(upL t (i + 1) j).toArray⟩ : ByteArray) = y := ⟨_, rfl⟩
            have hys : y.size ≤ 200000 := by rw [← hy]; show (upL t (i + 1) j).toArray.size ≤ _; rw [List.size_toArray]; omega
            have HN := Lib.hid (show (⟨(upL t (i + 1) (j + 1)).toArray⟩ : ByteArray) = y ++ ⟨#[cu (raA (pk t j))]⟩ by rw [← hy, app_one, upL_succ hj1 hjt])
            rw [hy]
            obtain ⟨p, hpe⟩ : ∃ p, pk t j = p := ⟨_, rfl⟩
            rw [hpe] at hp hpi HN
            have hrb := ra_bd hp.1 hp.2
            have H9 := Lib.hid (fun w => rb_ra p w hp.1 hp.2)
            have HCV := fun W => conv_one (raA p) hrb.1 hrb.2 W
            obtain ⟨g, hg⟩ : ∃ g, raA p = g := ⟨_, rfl⟩
            rw [hg] at H9 HCV HN
            clear hy hpe hg
            go_wp2_with (first | (go_at_call 96; (with_reducible refine (H9.out _).mono ?_); rintro e w' ⟨rfl, rfl⟩))
            go_roundw
            case rel => exact ⟨j + 1, by omega, by omega, by rw [HN.out], by go_num, HBJ.out.alloc hwz _⟩
            case measure => simp [intOf]; omega
          · have hje2 : j = k := by omega
            subst hje2
            go_wp2
            go_ret2
            exact ⟨rfl, HBJ.out⟩
      · have hlt : k < t.size := lt_of_yes bLd0 (t := t) (i := k) (by rw [HP.out]; unfold bLd; rw [hd, Bool.or_true])
        have HN := Lib.hid (show ru bLd bLd0 t (k + 1) = e by rw [← HK3.out]; exact (ru_yes (by rw [HP.out]; unfold bLd; rw [hd, Bool.or_true])).symm)
        rw [ha] at h4
        rw [hd] at h5
        have H4 := Lib.hid h4
        have H5 := Lib.hid h5
        clear h4 h5 ha hd
        go_wp2_with (first | (go_at_call 60; (with_reducible refine (H6.out).mono ?_); rintro e w' ⟨rfl, rfl⟩) | (go_at_call 62; (with_reducible refine (H4.out).mono ?_); rintro e w' ⟨rfl, rfl⟩) | (go_at_call 59; (with_reducible refine (H5.out _).mono ?_); rintro e w' ⟨rfl, rfl⟩))
        go_round
        case rel => exact ⟨k + 1, by omega, hlt, HN.out, by go_num⟩
        case measure => simp [intOf]; omega
    · have hlt : k < t.size := lt_of_yes bLd0 (t := t) (i := k) (by rw [HP.out]; unfold bLd; rw [ha, Bool.true_or])
      have HN := Lib.hid (show ru bLd bLd0 t (k + 1) = e by rw [← HK3.out]; exact (ru_yes (by rw [HP.out]; unfold bLd; rw [ha, Bool.true_or])).symm)
      rw [ha] at h4
      have H4 := Lib.hid h4
      clear h4 h5 ha
      go_wp2_with (first | (go_at_call 60; (with_reducible refine (H6.out).mono ?_); rintro e w' ⟨rfl, rfl⟩) | (go_at_call 62; (with_reducible refine (H4.out).mono ?_); rintro e w' ⟨rfl, rfl⟩))
      go_round
      case rel => exact ⟨k + 1, by omega, hlt, HN.out, by go_num⟩
      case measure => simp [intOf]; omega
set_option maxRecDepth 100000 in
set_option maxHeartbeats 4000000 in
theorem rbold_q2 (t : ByteArray) (S i : Nat) (w : World) (c0 : w.cell? ⟨S, 0, none⟩ = some (.string t)) (c2 : w.cell? ⟨S, 2, none⟩ = some (.int .i64 2)) (hl : t.size ≤ 100000) (hi : i ≤ t.size) (hp : pk t i = 39) (hn : bLe (pk t (i + 1)) = true) (hm : pk t (ru bLd bLd0 t (i + 1)) ≠ 39) :
    Calls Tryz.prog 56 #[.pointer (some ⟨S, 0, none⟩), .int .i64 (i : Int)] w fun e w' => e = .returned (.tuple #[.string ⟨#[]⟩, .int .i64 (i : Int)]) ∧ Below w.heap.size w w' := by
  have hS := cell_lt c0
  simp only at hS
  have HCC : Hid (∀ W, Below w.heap.size w W → W.cell? ⟨S, 0, none⟩ = some (.string t) ∧ W.cell? ⟨S, 2, none⟩ = some (.int .i64 2)) := Lib.hid (fun W hb => ⟨(hb.cell (p := ⟨S, 0, none⟩) hS).trans c0, (hb.cell (p := ⟨S, 2, none⟩) hS).trans c2⟩)
  have HAT := Lib.hid (fun k (hk : k ≤ t.size) => at_any t S k w c0 hl (by omega))
  have HLT := Lib.hid (fun p h0 h1 => letter_any S 2 p w c2 h0 h1)
  have hi1 : i + 1 < t.size := lt_of_yes bLd0 (t := t) (i := i + 1) (by unfold bLd; rw [hn, Bool.true_or])
  have hle := ru_le bLd bLd0 t (i + 1) (by omega)
  have hge := ru_ge bLd bLd0 t (i + 1)
  have h1 := HAT.out i hi
  rw [hp] at h1
  have h3 := HAT.out (i + 1) (by omega)
  have hq := pk_bd t (i + 1)
  obtain ⟨q, hqe⟩ : ∃ p, pk t (i + 1) = p := ⟨_, rfl⟩
  rw [hqe] at hq h3 hn
  rw [show ((i + 1 : Nat) : Int) = (i : Int) + 1 by omega] at h3
  have h2 := HLT.out q hq.1 hq.2
  rw [lt_le (by decide), hn] at h2
  have H1 := Lib.hid h1
  have H2 := Lib.hid h2
  have H3 := Lib.hid h3
  obtain ⟨e, he⟩ : ∃ e, ru bLd bLd0 t (i + 1) = e := ⟨_, rfl⟩
  have HE := Lib.hid he
  rw [he] at hle hge hm 
  clear h1 h2 h3 hqe hp hn he
  go_enter Tryz.func56, Tryz.ntmps56
  go_wp2_with (first | (go_at_call 60; (with_reducible refine (H1.out).mono ?_); rintro e w' ⟨rfl, rfl⟩) | (go_at_call 60; (with_reducible refine (H3.out).mono ?_); rintro e w' ⟨rfl, rfl⟩) | (go_at_call 62; (with_reducible refine (H2.out).mono ?_); rintro e w' ⟨rfl, rfl⟩))
  go_loop [7] (fun v7 => ∃ k : Nat, i + 1 ≤ k ∧ k ≤ t.size ∧ ru bLd bLd0 t k = e ∧ v7 = .int .i64 k) (fun v7 => t.size - (intOf v7).toNat)
  case atStart => exact ⟨i + 1, Nat.le_refl _, by omega, HE.out, by go_num⟩
  case round =>
    obtain ⟨k, hk1, hk2, hk3, rfl⟩ := hrel
    have HK3 := Lib.hid hk3
    have hp := pk_bd t k
    have h3 := HAT.out k hk2
    obtain ⟨p, hpe⟩ : ∃ p, pk t k = p := ⟨_, rfl⟩
    have HP := Lib.hid hpe
    rw [hpe] at hp h3
    have H6 := Lib.hid h3
    have h4 := HLT.out p hp.1 hp.2
    rw [lt_le (by decide)] at h4
    have h5 := fun w => rb_di p w hp.1 hp.2
    clear hk3 h3 hpe
    cases ha : bLe p
    · cases hd : bDi p
      · have hke : k = e := by rw [← HK3.out]; exact (ru_no (by rw [HP.out]; unfold bLd; rw [ha, hd]; rfl)).symm
        rw [ha] at h4
        rw [hd] at h5
        have H4 := Lib.hid h4
        have H5 := Lib.hid h5
        clear h4 h5 ha hd
        subst hke
        have hm2 : (p != 39) = true := by rw [bne_iff_ne, ← HP.out]; exact hm
        clear hm
        go_wp2_with (first | (go_at_call 60; (with_reducible refine (H6.out).mono ?_); rintro e w' ⟨rfl, rfl⟩) | (go_at_call 62; (with_reducible refine (H4.out).mono ?_); rintro e w' ⟨rfl, rfl⟩) | (go_at_call 59; (with_reducible refine (H5.out _).mono ?_); rintro e w' ⟨rfl, rfl⟩))
        go_ret2
        exact ⟨rfl, Below.refl _ _⟩
      · have hlt : k < t.size := lt_of_yes bLd0 (t := t) (i := k) (by rw [HP.out]; unfold bLd; rw [hd, Bool.or_true])
        have HN := Lib.hid (show ru bLd bLd0 t (k + 1) = e by rw [← HK3.out]; exact (ru_yes (by rw [HP.out]; unfold bLd; rw [hd, Bool.or_true])).symm)
        rw [ha] at h4
        rw [hd] at h5
        have H4 := Lib.hid h4
        have H5 := Lib.hid h5
        clear h4 h5 ha hd
        go_wp2_with (first | (go_at_call 60; (with_reducible refine (H6.out).mono ?_); rintro e w' ⟨rfl, rfl⟩) | (go_at_call 62; (with_reducible refine (H4.out).mono ?_); rintro e w' ⟨rfl, rfl⟩) | (go_at_call 59; (with_reducible refine (H5.out _).mono ?_); rintro e w' ⟨rfl, rfl⟩))
        go_round
        case rel => exact ⟨k + 1, by omega, hlt, HN.out, by go_num⟩
        case measure => simp [intOf]; omega
    · have hlt : k < t.size := lt_of_yes bLd0 (t := t) (i := k) (by rw [HP.out]; unfold bLd; rw [ha, Bool.true_or])
      have HN := Lib.hid (show ru bLd bLd0 t (k + 1) = e by rw [← HK3.out]; exact (ru_yes (by rw [HP.out]; unfold bLd; rw [ha, Bool.true_or])).symm)
      rw [ha] at h4
      have H4 := Lib.hid h4
      clear h4 h5 ha
      go_wp2_with (first | (go_at_call 60; (with_reducible refine (H6.out).mono ?_); rintro e w' ⟨rfl, rfl⟩) | (go_at_call 62; (with_reducible refine (H4.out).mono ?_); rintro e w' ⟨rfl, rfl⟩))
      go_round
      case rel => exact ⟨k + 1, by omega, hlt, HN.out, by go_num⟩
      case measure => simp [intOf]; omega
set_option maxRecDepth 100000 in
set_option maxHeartbeats 4000000 in
theorem rbold_q3 (t : ByteArray) (S i : Nat) (w : World) (c0 : w.cell? ⟨S, 0, none⟩ = some (.string t)) (c2 : w.cell? ⟨S, 2, none⟩ = some (.int .i64 2)) (hl : t.size ≤ 100000) (hi : i ≤ t.size) (hp : pk t i = 39) (hn : bLe (pk t (i + 1)) = true) (hm : pk t (ru bLd bLd0 t (i + 1)) = 39) :
    Calls Tryz.prog 56 #[.pointer (some ⟨S, 0, none⟩), .int .i64 (i : Int)] w fun e w' => e = .returned (.tuple #[.string (upW t (i + 1) (ru bLd bLd0 t (i + 1))), .int .i64 ((ru bLd bLd0 t (i + 1) + 1 : Nat) : Int)]) ∧ Below w.heap.size w w' := by
  have hS := cell_lt c0
  simp only at hS
  have HCC : Hid (∀ W, Below w.heap.size w W → W.cell? ⟨S, 0, none⟩ = some (.string t) ∧ W.cell? ⟨S, 2, none⟩ = some (.int .i64 2)) := Lib.hid (fun W hb => ⟨(hb.cell (p := ⟨S, 0, none⟩) hS).trans c0, (hb.cell (p := ⟨S, 2, none⟩) hS).trans c2⟩)
  have HAT := Lib.hid (fun k (hk : k ≤ t.size) => at_any t S k w c0 hl (by omega))
  have HLT := Lib.hid (fun p h0 h1 => letter_any S 2 p w c2 h0 h1)
  have hi1 : i + 1 < t.size := lt_of_yes bLd0 (t := t) (i := i + 1) (by unfold bLd; rw [hn, Bool.true_or])
  have hle := ru_le bLd bLd0 t (i + 1) (by omega)
  have hge := ru_ge bLd bLd0 t (i + 1)
  have h1 := HAT.out i hi
  rw [hp] at h1
  have h3 := HAT.out (i + 1) (by omega)
  have hq := pk_bd t (i + 1)
  obtain ⟨q, hqe⟩ : ∃ p, pk t (i + 1) = p := ⟨_, rfl⟩
  rw [hqe] at hq h3 hn
  rw [show ((i + 1 : Nat) : Int) = (i : Int) + 1 by omega] at h3
  have h2 := HLT.out q hq.1 hq.2
  rw [lt_le (by decide), hn] at h2
  have H1 := Lib.hid h1
  have H2 := Lib.hid h2
  have H3 := Lib.hid h3
  obtain ⟨e, he⟩ : ∃ e, ru bLd bLd0 t (i + 1) = e := ⟨_, rfl⟩
  have HE := Lib.hid he
  rw [he] at hle hge hm ⊢
  clear h1 h2 h3 hqe hp hn he
  go_enter Tryz.func56, Tryz.ntmps56
  go_wp2_with (first | (go_at_call 60; (with_reducible refine (H1.out).mono ?_); rintro e w' ⟨rfl, rfl⟩) | (go_at_call 60; (with_reducible refine (H3.out).mono ?_); rintro e w' ⟨rfl, rfl⟩) | (go_at_call 62; (with_reducible refine (H2.out).mono ?_); rintro e w' ⟨rfl, rfl⟩))
  go_loop [7] (fun v7 => ∃ k : Nat, i + 1 ≤ k ∧ k ≤ t.size ∧ ru bLd bLd0 t k = e ∧ v7 = .int .i64 k) (fun v7 => t.size - (intOf v7).toNat)
  case atStart => exact ⟨i + 1, Nat.le_refl _, by omega, HE.out, by go_num⟩
  case round =>
    obtain ⟨k, hk1, hk2, hk3, rfl⟩ := hrel
    have HK3 := Lib.hid hk3
    have hp := pk_bd t k
    have h3 := HAT.out k hk2
    obtain ⟨p, hpe⟩ : ∃ p, pk t k = p := ⟨_, rfl⟩
    have HP := Lib.hid hpe
    rw [hpe] at hp h3
    have H6 := Lib.hid h3
    have h4 := HLT.out p hp.1 hp.2
    rw [lt_le (by decide)] at h4
    have h5 := fun w => rb_di p w hp.1 hp.2
    clear hk3 h3 hpe
    cases ha : bLe p
    · cases hd : bDi p
      · have hke : k = e := by rw [← HK3.out]; exact (ru_no (by rw [HP.out]; unfold bLd; rw [ha, hd]; rfl)).symm
        rw [ha] at h4
        rw [hd] at h5
        have H4 := Lib.hid h4
        have H5 := Lib.hid h5
        clear h4 h5 ha hd
        subst hke
        have hm2 : p = 39 := by rw [← HP.out]; exact hm
        subst hm2
        have hkt : k < t.size := pk_lt hm (by decide)
        clear hm
        go_wp2_with (first | (go_at_call 60; (with_reducible refine (H6.out).mono ?_); rintro e w' ⟨rfl, rfl⟩) | (go_at_call 62; (with_reducible refine (H4.out).mono ?_); rintro e w' ⟨rfl, rfl⟩) | (go_at_call 59; (with_reducible refine (H5.out _).mono ?_); rintro e w' ⟨rfl, rfl⟩))
        go_loopw [8, 9] (fun v8 v9 wr => ∃ j : Nat, (i + 1) ≤ j ∧ j ≤ k ∧ v8 = .string ⟨(upL t (i + 1) j).toArray⟩ ∧ v9 = .int .i64 j ∧ Below w.heap.size w wr) (fun _ v9 _ => k - (intOf v9).toNat)
        case atStart => exact ⟨(i + 1), Nat.le_refl _, by omega, by rw [upL_nil], by go_num, Below.refl _ w⟩
        case round =>
          obtain ⟨j, hj1, hj2, rfl, rfl, hbj⟩ := hrel
          have hlen := upL_len t (i + 1) j
          have HC := Lib.hid (HCC.out wr hbj)
          have d0 := HC.out.1
          have d2 := HC.out.2
          have hwz := hbj.size
          have HBJ := Lib.hid hbj
          clear hbj
          by_cases hje : j < k
          · have hjt : j < t.size := by omega
            have hp := pk_bd t j
            have hpi := (pk_in hjt).symm
            obtain ⟨y, hy⟩ : ∃ y, (⟨(upL t (i + 1) j).toArray⟩ : ByteArray) = y := ⟨_, rfl⟩
            have hys : y.size ≤ 200000 := by rw [← hy]; show (upL t (i + 1) j).toArray.size ≤ _; rw [List.size_toArray]; omega
            have HN := Lib.hid (show (⟨(upL t (i + 1) (j + 1)).toArray⟩ : ByteArray) = y ++ ⟨#[cu (raA (pk t j))]⟩ by rw [← hy, app_one, upL_succ hj1 hjt])
            rw [hy]
            obtain ⟨p, hpe⟩ : ∃ p, pk t j = p := ⟨_, rfl⟩
            rw [hpe] at hp hpi HN
            have hrb := ra_bd hp.1 hp.2
            have H9 := Lib.hid (fun w => rb_ra p w hp.1 hp.2)
            have HCV := fun W => conv_one (raA p) hrb.1 hrb.2 W
            obtain ⟨g, hg⟩ : ∃ g, raA p = g := ⟨_, rfl⟩
            rw [hg] at H9 HCV HN
            clear hy hpe hg
            go_wp2_with (first | (go_at_call 96; (with_reducible refine (H9.out _).mono ?_); rintro e w' ⟨rfl, rfl⟩))
            go_roundw
            case rel => exact ⟨j + 1, by omega, by omega, by rw [HN.out], by go_num, HBJ.out.alloc hwz _⟩
            case measure => simp [intOf]; omega
          · have hje2 : j = k := by omega
            subst hje2
            go_wp2
            go_ret2
            exact ⟨by go_num, HBJ.out⟩
      · have hlt : k < t.size := lt_of_yes bLd0 (t := t) (i := k) (by rw [HP.out]; unfold bLd; rw [hd, Bool.or_true])
        have HN := Lib.hid (show ru bLd bLd0 t (k + 1) = e by rw [← HK3.out]; exact (ru_yes (by rw [HP.out]; unfold bLd; rw [hd, Bool.or_true])).symm)
        rw [ha] at h4
        rw [hd] at h5
        have H4 := Lib.hid h4
        have H5 := Lib.hid h5
        clear h4 h5 ha hd
        go_wp2_with (first | (go_at_call 60; (with_reducible refine (H6.out).mono ?_); rintro e w' ⟨rfl, rfl⟩) | (go_at_call 62; (with_reducible refine (H4.out).mono ?_); rintro e w' ⟨rfl, rfl⟩) | (go_at_call 59; (with_reducible refine (H5.out _).mono ?_); rintro e w' ⟨rfl, rfl⟩))
        go_round
        case rel => exact ⟨k + 1, by omega, hlt, HN.out, by go_num⟩
        case measure => simp [intOf]; omega
    · have hlt : k < t.size := lt_of_yes bLd0 (t := t) (i := k) (by rw [HP.out]; unfold bLd; rw [ha, Bool.true_or])
      have HN := Lib.hid (show ru bLd bLd0 t (k + 1) = e by rw [← HK3.out]; exact (ru_yes (by rw [HP.out]; unfold bLd; rw [ha, Bool.true_or])).symm)
      rw [ha] at h4
      have H4 := Lib.hid h4
      clear h4 h5 ha
      go_wp2_with (first | (go_at_call 60; (with_reducible refine (H6.out).mono ?_); rintro e w' ⟨rfl, rfl⟩) | (go_at_call 62; (with_reducible refine (H4.out).mono ?_); rintro e w' ⟨rfl, rfl⟩))
      go_round
      case rel => exact ⟨k + 1, by omega, hlt, HN.out, by go_num⟩
      case measure => simp [intOf]; omega
theorem rbold_any (t : ByteArray) (S i : Nat) (r : Int) (w : World) (c0 : w.cell? ⟨S, 0, none⟩ = some (.string t)) (c2 : w.cell? ⟨S, 2, none⟩ = some (.int .i64 r)) (hr : 0 ≤ r ∧ r ≤ 2) (hl : t.size ≤ 100000) (hi : i ≤ t.size) :
    Calls Tryz.prog 56 #[.pointer (some ⟨S, 0, none⟩), .int .i64 (i : Int)] w fun e w' => e = .returned (.tuple #[.string (bdF r t i).1, .int .i64 ((bdF r t i).2 : Int)]) ∧ Below w.heap.size w w' := by
  unfold bdF
  rcases (by omega : r = 0 ∨ r = 1 ∨ r = 2) with rfl | rfl | rfl
  · rw [if_pos rfl]
    cases h : bCa (pk t i)
    · rw [if_neg (by decide)]; exact rbold_u0 t S i w c0 c2 hl hi h
    · rw [if_pos rfl]; exact rbold_u1 t S i w c0 c2 hl hi h
  · rw [if_neg (by decide), if_neg (by decide)]
    by_cases h : pk t i = 46
    · cases h2 : bLe (pk t (i + 1))
      · rw [if_neg (fun h => by cases h.2)]; exact rbold_p1 t S i w c0 c2 hl hi h h2
      · rw [if_pos ⟨h, rfl⟩]; exact rbold_p2 t S i w c0 c2 hl hi h h2
    · rw [if_neg (fun k => h k.1)]; exact rbold_p0 t S i w c0 c2 hl hi h
  · rw [if_neg (by decide), if_pos rfl]
    by_cases h : pk t i = 39
    · cases h2 : bLe (pk t (i + 1))
      · rw [if_neg (fun h => by cases h.2.1)]; exact rbold_q1 t S i w c0 c2 hl hi h h2
      · by_cases h3 : pk t (ru bLd bLd0 t (i + 1)) = 39
        · rw [if_pos ⟨h, rfl, h3⟩]; exact rbold_q3 t S i w c0 c2 hl hi h h2 h3
        · rw [if_neg (fun k => h3 k.2.2)]; exact rbold_q2 t S i w c0 c2 hl hi h h2 h3
    · rw [if_neg (fun k => h k.1)]; exact rbold_q0 t S i w c0 c2 hl hi h
end Go.Proofs.YtbnldpcbdeeflaaGreatDoor
