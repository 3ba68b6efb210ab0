/- The reference's digits and exponents. Condition: the scanner's cells hold the text and the regime. -/
import Derived.Test.YtbnldpcbdeeflaaGreatDoorGRb
import Derived.Test.YtbnldpcbdeeflaaGreatDoorGo
namespace Go.Proofs.YtbnldpcbdeeflaaGreatDoor
open Go.ChangeShapes Go.WideShapes Go.ChangeAt Go.RowKit

theorem lo_ch {r c : Int} (h : ltB r c = true) : chB r c = loA c := by
  unfold ltB at h
  unfold chB loA
  cases hc : bCa c
  · rw [hc, Bool.and_false, Bool.or_false] at h
    rw [Bool.false_and, if_neg (by decide)]
    unfold bSd
    rw [h, Bool.true_or, if_pos rfl, if_neg (by decide)]
  · have h1 : 65 ≤ c ∧ c ≤ 90 := of_decide_eq_true hc
    have h2 : bSm c = false := decide_eq_false (by omega)
    rw [h2, hc, Bool.false_or, Bool.and_true] at h
    rw [h, Bool.and_true, if_pos rfl, if_pos rfl]
    omega
theorem no_ch {r c : Int} (h : ltB r c = false) : bSm (chB r c) = false := by
  unfold ltB at h
  rw [Bool.or_eq_false_iff] at h
  unfold chB
  cases hc : bCa c
  · rw [Bool.false_and, if_neg (by decide)]
    split
    · exact h.1
    · rfl
  · rw [hc, Bool.and_true] at h
    have h1 : 65 ≤ c ∧ c ≤ 90 := of_decide_eq_true hc
    rw [h.2, Bool.and_false, if_neg (by decide)]
    split
    · exact h.1
    · rfl
theorem di_chB (r c : Int) : bDi (chB r c) = bDi c := by
  unfold chB
  cases hc : bCa c
  · rw [Bool.false_and, if_neg (by decide)]
    unfold bSd
    cases hd : bDi c
    · rw [Bool.or_false]
      split
      · exact hd
      · rfl
    · rw [Bool.or_true, if_pos rfl]; exact hd
  · have h1 : 65 ≤ c ∧ c ≤ 90 := of_decide_eq_true hc
    have h2 : bDi c = false := decide_eq_false (by omega)
    rw [h2]
    split
    · exact decide_eq_false (by omega)
    · split
      · exact h2
      · rfl
theorem chB_di {r c : Int} (h : bDi c = true) : chB r c = c := by
  have h1 : 48 ≤ c ∧ c ≤ 57 := of_decide_eq_true h
  unfold chB
  rw [show bCa c = false from decide_eq_false (by omega), Bool.false_and, if_neg (by decide)]
  unfold bSd
  rw [h, Bool.or_true, if_pos rfl]
theorem sk_not (t : ByteArray) (i : Nat) : bBl (pk t (sk t i)) = false := by
  rcases Bool.eq_false_or_eq_true (bBl (pk t i)) with h | h
  · have hl := lt_of_yes bBl0 h
    have : sk t i = sk t (i + 1) := ru_yes h
    rw [this]
    exact sk_not t (i + 1)
  · have : sk t i = i := ru_no h
    rw [this]; exact h
termination_by t.size - i
theorem sk_sk (t : ByteArray) (i : Nat) : sk t (sk t i) = sk t i := ru_no (sk_not t i)
theorem rnF_sk (f : Int → Bool) (hf : f 0 = false) (r : Int) (t : ByteArray) (a : Nat) : (rnF f hf r t (sk t a)).1 = (rnF f hf r t a).1 ∧ ((rnF f hf r t a).1 ≠ [] → (rnF f hf r t (sk t a)).2 = (rnF f hf r t a).2) := by
  unfold rnF
  rw [sk_sk]
  cases h : f (ch r t (sk t a))
  · rw [rn_no h, rn_no h]
    exact ⟨rfl, fun h => absurd rfl h⟩
  · rw [rn_yes h, rn_yes h]
    exact ⟨rfl, fun _ => rfl⟩
theorem ext_one {t : ByteArray} {k : Nat} (h : k < t.size) : t.extract k (k + 1) = ⟨#[t[k]]⟩ := by
  apply ByteArray.ext
  show (t.extract k (k + 1)).data = #[t[k]]
  rw [ByteArray.data_extract]
  apply Array.ext
  · simp
    have : t.data.size = t.size := rfl
    omega
  · intro i h1 h2
    simp at h2
    subst h2
    simp
    rfl
theorem app_one (acc : List UInt8) (b : UInt8) : (⟨acc.toArray⟩ : ByteArray) ++ ⟨#[b]⟩ = ⟨(acc ++ [b]).toArray⟩ := by
  apply ByteArray.ext
  rw [ByteArray.data_append]
  simp
theorem cu_in {t : ByteArray} {k : Nat} (h : k < t.size) : cu (pk t k) = t[k] := by
  rw [pk_in h]
  unfold cu
  rw [Int.toNat_natCast]
  exact UInt8.ofNat_toNat
set_option maxHeartbeats 2000000 in
theorem rdig_any (t : ByteArray) (S i : Nat) (r : Int) (w : World) (c0 : w.cell? ⟨S, 0, none⟩ = some (.string t)) (hl : t.size ≤ 100000) (hi : i ≤ t.size) (hb : sk t i = i) :
    Calls Tryz.prog 97 #[.pointer (some ⟨S, 0, none⟩), .int .i64 (i : Int)] w fun e w' => e = .returned (.tuple #[.string ⟨(rnF bDi bDi0 r t i).1.toArray⟩, .int .i64 ((rnF bDi bDi0 r t i).2 : Int)]) ∧ w = w' := by
  have HL := Lib.hid hl
  have HI := Lib.hid hi
  have HB := Lib.hid hb
  have HC := Lib.hid c0
  clear hi hb hl
  go_enter Tryz.func97, Tryz.ntmps97
  go_wp2
  go_loop [6, 7] (fun v6 v7 => ∃ (acc : List UInt8) (e : Nat), (acc = [] → e = i) ∧ i ≤ e ∧ acc.length ≤ e ∧ e ≤ t.size ∧ (acc ++ (rn bDi bDi0 r t (sk t e) e).1, (rn bDi bDi0 r t (sk t e) e).2) = rnF bDi bDi0 r t i ∧ v6 = .string ⟨acc.toArray⟩ ∧ v7 = .int .i64 e) (fun _ v7 => t.size - (intOf v7).toNat)
  case atStart => exact ⟨[], i, fun _ => rfl, Nat.le_refl _, Nat.zero_le _, HI.out, by unfold rnF; rfl, rfl, rfl⟩
  case round =>
    obtain ⟨acc, e, hae, hie, hal, he, hrn, rfl, rfl⟩ := hrel
    have hl := HL.out
    have hks := sk_ge t e
    have hkl := sk_le he
    have H1 := Lib.hid (behind_any t S e w HC.out hl (by omega))
    have H2 := Lib.hid (at_any t S (sk t e) w HC.out hl (by omega))
    have HR := Lib.hid hrn
    obtain ⟨k, hk⟩ : ∃ k, sk t e = k := ⟨_, rfl⟩
    have HK := Lib.hid hk
    have HKA : Hid (acc = [] → k = i) := Lib.hid (fun h => by rw [← hk, hae h]; exact HB.out)
    rw [hk] at H1 H2 hks hkl
    have hp := pk_bd t k
    obtain ⟨p, hpe⟩ : ∃ p, pk t k = p := ⟨_, rfl⟩
    have HP := Lib.hid hpe
    rw [hpe] at hp H2
    have H3 := Lib.hid (fun w => rb_di p w hp.1 hp.2)
    have hal2 : acc.length ≤ 100000 := by omega
    clear hrn hk hpe hae
    cases hd : bDi p
    · have HN := Lib.hid (show rnF bDi bDi0 r t i = (acc, e) by
        rw [← HR.out, rn_no (by show bDi (chB r (pk t (sk t e))) = false; rw [di_chB, HK.out, HP.out]; exact hd), List.append_nil])
      rw [hd] at H3
      clear hd
      cases acc with
      | nil =>
        have hki := HKA.out rfl
        subst hki
        go_wp2_with (first | (go_at_call 98; (with_reducible refine (H1.out).mono ?_); rintro e w' ⟨rfl, rfl⟩) | (go_at_call 60; (with_reducible refine (H2.out).mono ?_); rintro e w' ⟨rfl, rfl⟩) | (go_at_call 59; (with_reducible refine (H3.out _).mono ?_); rintro e w' ⟨rfl, rfl⟩))
        go_ret2
        exact ⟨by rw [HN.out]; rfl, rfl⟩
      | cons x xs =>
        go_wp2_with (first | (go_at_call 98; (with_reducible refine (H1.out).mono ?_); rintro e w' ⟨rfl, rfl⟩) | (go_at_call 60; (with_reducible refine (H2.out).mono ?_); rintro e w' ⟨rfl, rfl⟩) | (go_at_call 59; (with_reducible refine (H3.out _).mono ?_); rintro e w' ⟨rfl, rfl⟩))
        go_ret2
        exact ⟨by rw [HN.out]; rfl, rfl⟩
    · have hlt : k < t.size := pk_lt HP.out (by have : 48 ≤ p ∧ p ≤ 57 := of_decide_eq_true hd; omega)
      have HX := Lib.hid (ext_one hlt)
      have HCU := Lib.hid (show cu (ch r t k) = t[k] by rw [← cu_in hlt]; show cu (chB r (pk t k)) = _; rw [chB_di (by rw [HP.out]; exact hd)])
      have HN := Lib.hid (show ((acc ++ [t[k]]) ++ (rn bDi bDi0 r t (sk t (k + 1)) (k + 1)).1, (rn bDi bDi0 r t (sk t (k + 1)) (k + 1)).2) = rnF bDi bDi0 r t i by
        rw [← HR.out, HK.out, rn_yes (f := bDi) (hf := bDi0) (r := r) (t := t) (i := k) (e := e) (by show bDi (chB r (pk t k)) = true; rw [di_chB, HP.out]; exact hd), HCU.out, List.append_assoc]; rfl)
      have HAP := Lib.hid (app_one acc t[k])
      rw [hd] at H3
      clear hd
      cases acc with
      | nil =>
        have hki := HKA.out rfl
        subst hki
        go_wp2_with (first | (go_at_call 98; (with_reducible refine (H1.out).mono ?_); rintro e w' ⟨rfl, rfl⟩) | (go_at_call 60; (with_reducible refine (H2.out).mono ?_); rintro e w' ⟨rfl, rfl⟩) | (go_at_call 59; (with_reducible refine (H3.out _).mono ?_); rintro e w' ⟨rfl, rfl⟩))
        go_round
        case rel => exact ⟨[t[k]], k + 1, (fun h => by cases h), by omega, by simp, hlt, HN.out, by rw [HX.out]; exact congrArg Value.string HAP.out, by go_num⟩
        case measure => simp [intOf]; omega
      | cons x xs =>
        have hxl : xs.length ≤ 100000 := by simp only [List.length_cons] at hal2; omega
        go_wp2_with (first | (go_at_call 98; (with_reducible refine (H1.out).mono ?_); rintro e w' ⟨rfl, rfl⟩) | (go_at_call 60; (with_reducible refine (H2.out).mono ?_); rintro e w' ⟨rfl, rfl⟩) | (go_at_call 59; (with_reducible refine (H3.out _).mono ?_); rintro e w' ⟨rfl, rfl⟩))
        go_round
        case rel => exact ⟨x :: xs ++ [t[k]], k + 1, (fun h => by simp at h), by omega, by simp only [List.length_append, List.length_cons, List.length_nil] at hal ⊢; omega, hlt, HN.out, by rw [HX.out]; exact congrArg Value.string HAP.out, by go_num⟩
        case measure => simp [intOf]; omega
end Go.Proofs.YtbnldpcbdeeflaaGreatDoor
