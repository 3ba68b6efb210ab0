/- What the program's power of an integer of a size returns, for every size and numbers. Condition: the table holds what its initialiser lays. -/
import Derived.Test.YtkehmdocjjadnaaDoorPowM
namespace Go.Proofs.YtkehmdocjjadnaaDoor
open Go.ChangeShapes Go.WideShapes Go.ChangeAt Go.RowKit

theorem powUnit_any (a n : Int) (w : World) (h : mag a ≤ 1) (hn : 0 ≤ n) :
    Calls Tryd.prog 71 #[.int .i64 a, .int .i64 n] w fun e w' => e = .returned (.int .i64 (pw a n)) ∧ w = w' := by
  have hp := pw_unit h hn
  have hc : a = -1 ∨ a = 0 ∨ a = 1 := by unfold mag at h; split at h <;> omega
  rw [hp]
  clear hp h
  by_cases h0 : n = 0
  · subst h0
    go_enter Tryd.func71, Tryd.ntmps71
    go_wp2
    go_returns
    exact ⟨rfl, rfl⟩
  · have h1 : (n == 0) = false := by simpa using h0
    rw [if_neg h0]
    by_cases h2 : n % 2 = 0
    · rw [if_pos h2]
      have h3 : (n % 2 == 0) = true := by simpa using h2
      rcases hc with rfl | rfl | rfl
      all_goals
        go_enter Tryd.func71, Tryd.ntmps71
        go_wp2
        go_returns
        exact ⟨rfl, rfl⟩
    · rw [if_neg h2]
      have h3 : (n % 2 == 0) = false := by simpa using h2
      go_enter Tryd.func71, Tryd.ntmps71
      go_wp2
      go_returns
      exact ⟨rfl, rfl⟩
theorem Pow_any (s a n : Int) (w : World) (ht : Tab w) (nlo : -9223372036854775808 ≤ n) (nhi : n ≤ 9223372036854775807) :
    Calls Tryd.prog 41 #[.int .i64 s, .int .i64 a, .int .i64 n] w fun e w' => e = .returned (.tuple #[.int .i64 (powR s a n).1, .int .i64 (powR s a n).2]) ∧ Kept w w' := by
  have hlt := ht.lt
  cases hs : isSz s
  · rw [powR_no hs]
    have hm := fun ok => ck_no (ok := ok) hs
    go_enter Tryd.func41, Tryd.ntmps41
    go_wp2_with (first | (go_at_call 63; refine (checkInts1A _ _ _ _ (by repeat (first | assumption | refine Tab.alloc ?_ _))).mono ?_; rintro e w2 ⟨rfl, hk2⟩; obtain ⟨hc2, hf2⟩ := bcell hk2.2; have ht2 := hk2.1; have hz2 := hk2.2.size; (try simp only [World.size_alloc] at hz2)))
    go_returns
    exact ⟨by simp, (by repeat (first | assumption | exact Kept.refl ht | refine Kept.alloc ?_ _ _ | refine Kept.trans ?_ (by assumption)))⟩
  · have hm1 := ck_t hs
    have hm2 := ck_f hs
    rcases isI_or s a with ⟨ha, la, ua⟩ | ha
    · by_cases hn : n < 0
      · rw [powR_neg hs ha hn]
        go_enter Tryd.func41, Tryd.ntmps41
        go_wp2_with (first | (go_at_call 63; refine (checkInts1A _ _ _ _ (by repeat (first | assumption | refine Tab.alloc ?_ _))).mono ?_; rintro e w2 ⟨rfl, hk2⟩; obtain ⟨hc2, hf2⟩ := bcell hk2.2; have ht2 := hk2.1; have hz2 := hk2.2.size; (try simp only [World.size_alloc] at hz2)))
        go_returns
        exact ⟨by simp, (by repeat (first | assumption | exact Kept.refl ht | refine Kept.alloc ?_ _ _ | refine Kept.trans ?_ (by assumption)))⟩
      · rw [powR_y hs ha hn]
        by_cases h1 : mag a ≤ 1
        · rw [fit_y (unit_fits hs ha h1 (by omega))]
          have hn' : 0 ≤ n := by omega
          go_enter Tryd.func41, Tryd.ntmps41
          go_wp2_with (first | (go_at_call 63; refine (checkInts1A _ _ _ _ (by repeat (first | assumption | refine Tab.alloc ?_ _))).mono ?_; rintro e w2 ⟨rfl, hk2⟩; obtain ⟨hc2, hf2⟩ := bcell hk2.2; have ht2 := hk2.1; have hz2 := hk2.2.size; (try simp only [World.size_alloc] at hz2)) | (go_at_call 66; refine (magnitude_any _ _ (by assumption) (by assumption)).mono ?_; rintro e w' ⟨rfl, rfl⟩) | (go_at_call 71; refine (powUnit_any _ _ _ (by assumption) (by assumption)).mono ?_; rintro e w' ⟨rfl, rfl⟩))
          go_returns
          exact ⟨by simp, (by repeat (first | assumption | exact Kept.refl ht | refine Kept.alloc ?_ _ _ | refine Kept.trans ?_ (by assumption)))⟩
        · have h2 : 2 ≤ mag a := by omega
          obtain ⟨N, rfl⟩ := Int.eq_ofNat_of_zero_le (show 0 ≤ n by omega)
          go_enter Tryd.func41, Tryd.ntmps41
          go_wp2_with (first | (go_at_call 63; refine (checkInts1A _ _ _ _ (by repeat (first | assumption | refine Tab.alloc ?_ _))).mono ?_; rintro e w2 ⟨rfl, hk2⟩; obtain ⟨hc2, hf2⟩ := bcell hk2.2; have ht2 := hk2.1; have hz2 := hk2.2.size; (try simp only [World.size_alloc] at hz2)) | (go_at_call 66; refine (magnitude_any _ _ (by assumption) (by assumption)).mono ?_; rintro e w' ⟨rfl, rfl⟩))
          clear h1
          go_loopw [9, 27] (fun p i wr => ∃ k : Nat, k ≤ N ∧ i = .int .i64 k ∧ p = .int .i64 (pw a k) ∧ isI s (pw a k) = true ∧ Kept w wr) (fun _ i _ => N - (intOf i).toNat)
          case atStart => exact ⟨0, Nat.zero_le _, rfl, by simp [pw], by simpa [pw] using one_fits hs, (by repeat (first | assumption | exact Kept.refl ht | refine Kept.alloc ?_ _ _ | refine Kept.trans ?_ (by assumption)))⟩
          case round =>
            obtain ⟨k, hk, rfl, rfl, hf, hkw⟩ := hrel
            have htw := hkw.1
            rcases isI_or s (pw a k) with ⟨_, lp, up⟩ | hx
            · have hsucc := Lib.hid (pw_succ a k)
              by_cases hlt2 : k < N
              · cases hx : isI s (pw a k * a)
                · have hfx := fit_n hx
                  go_wp2_with (first | (go_at_call 70; refine (product_any _ _ _ _ (by assumption) (by assumption) (by assumption) (by assumption) (by assumption) (by assumption)).mono ?_; rintro e w3 ⟨rfl, hk3⟩))
                  go_returns
                  exact ⟨by rw [fit_n (pw_big (k := k + 1) hs h2 (by omega) (by rw [Int.natCast_add, Int.natCast_one, hsucc.out]; exact hx))]; rfl, Kept.trans hkw hk3⟩
                · have hfx := fit_y hx
                  go_wp2_with (first | (go_at_call 70; refine (product_any _ _ _ _ (by assumption) (by assumption) (by assumption) (by assumption) (by assumption) (by assumption)).mono ?_; rintro e w3 ⟨rfl, hk3⟩))
                  go_roundw
                  case rel => exact ⟨k + 1, by omega, by go_num, by rw [Int.natCast_add, Int.natCast_one, hsucc.out], by rw [Int.natCast_add, Int.natCast_one, hsucc.out]; exact hx, Kept.trans hkw hk3⟩
                  case measure => simp [intOf]; omega
              · obtain rfl : k = N := by omega
                go_wp2
                go_returns
                exact ⟨by rw [fit_y hf]; rfl, hkw⟩
            · rw [hf] at hx; cases hx
    · rw [powR_out hs ha]
      go_enter Tryd.func41, Tryd.ntmps41
      go_wp2_with (first | (go_at_call 63; refine (checkInts1A _ _ _ _ (by repeat (first | assumption | refine Tab.alloc ?_ _))).mono ?_; rintro e w2 ⟨rfl, hk2⟩; obtain ⟨hc2, hf2⟩ := bcell hk2.2; have ht2 := hk2.1; have hz2 := hk2.2.size; (try simp only [World.size_alloc] at hz2)))
      go_returns
      exact ⟨by simp, (by repeat (first | assumption | exact Kept.refl ht | refine Kept.alloc ?_ _ _ | refine Kept.trans ?_ (by assumption)))⟩
end Go.Proofs.YtkehmdocjjadnaaDoor
