/- What the reference's power of an integer of a size returns, for every size and numbers. No condition. -/
import Derived.Test.YtkehmdocjjadnaaDoorPowM
import Derived.Test.YtkehmdocjjadnaaDoorRops
namespace Go.Proofs.YtkehmdocjjadnaaDoor
open Go.ChangeShapes Go.WideShapes Go.ChangeAt Go.RowKit

theorem rPow_any (s a n : Int) (w : World) (nlo : -9223372036854775808 ≤ n) (nhi : n ≤ 9223372036854775807) :
    Calls Tryd.prog 42 #[.int .i64 s, .int .i64 a, .int .i64 n] w fun e w' => e = .returned (.tuple #[.int .i64 (powR s a n).1, .int .i64 (powR s a n).2]) ∧ w = w' := by
  cases hs : isSz s
  · rw [powR_no hs]
    have hm := fun ok => ck_no (ok := ok) hs
    go_enter Tryd.func42, Tryd.ntmps42
    go_wp2_with (first | (go_at_call 64; refine (right_any _ _ _ _).mono ?_; rintro e w' ⟨rfl, rfl⟩))
    go_returns
    exact ⟨by simp, rfl⟩
  · have hm1 := ck_t hs
    have hm2 := ck_f hs
    have hz := isI_zero hs
    rcases isI_or s a with ⟨ha, la, ua⟩ | ha
    · by_cases hn : n < 0
      · rw [powR_neg hs ha hn]
        go_enter Tryd.func42, Tryd.ntmps42
        go_wp2_with (first | (go_at_call 64; refine (right_any _ _ _ _).mono ?_; rintro e w' ⟨rfl, rfl⟩))
        go_returns
        exact ⟨by simp, rfl⟩
      · rw [powR_y hs ha hn]
        have hn' : 0 ≤ n := by omega
        by_cases h1 : mag a ≤ 1
        · rw [fit_y (unit_fits hs ha h1 hn')]
          have hc : a = -1 ∨ a = 0 ∨ a = 1 := by unfold mag at h1; split at h1 <;> omega
          rw [pw_unit h1 hn']
          clear h1
          rcases hc with rfl | rfl | rfl
          · by_cases h0 : n = 0
            · subst h0
              go_enter Tryd.func42, Tryd.ntmps42
              go_wp2_with (first | (go_at_call 64; refine (right_any _ _ _ _).mono ?_; rintro e w' ⟨rfl, rfl⟩))
              go_returns
              exact ⟨rfl, rfl⟩
            · rw [if_neg h0]
              by_cases h2 : n % 2 = 0
              · rw [if_pos h2]
                have h3 : (n % 2 == 0) = true := by simpa using h2
                go_enter Tryd.func42, Tryd.ntmps42
                go_wp2_with (first | (go_at_call 64; refine (right_any _ _ _ _).mono ?_; rintro e w' ⟨rfl, rfl⟩))
                go_returns
                exact ⟨rfl, rfl⟩
              · rw [if_neg h2]
                have h3 : (n % 2 == 0) = false := by simpa using h2
                go_enter Tryd.func42, Tryd.ntmps42
                go_wp2_with (first | (go_at_call 64; refine (right_any _ _ _ _).mono ?_; rintro e w' ⟨rfl, rfl⟩))
                go_returns
                exact ⟨rfl, rfl⟩
          · by_cases h0 : n = 0
            · subst h0
              go_enter Tryd.func42, Tryd.ntmps42
              go_wp2_with (first | (go_at_call 64; refine (right_any _ _ _ _).mono ?_; rintro e w' ⟨rfl, rfl⟩))
              refine wp_loop_rounds 1 ?_
              rw [rounds_succ]
              go_wp2
              go_returns
              exact ⟨rfl, rfl⟩
            · rw [if_neg h0]
              have h1 : 0 < n := by omega
              rw [show (if n % 2 = 0 then (0 : Int) * 0 else 0) = 0 from by split <;> rfl]
              go_enter Tryd.func42, Tryd.ntmps42
              go_wp2_with (first | (go_at_call 64; refine (right_any _ _ _ _).mono ?_; rintro e w' ⟨rfl, rfl⟩))
              go_returns
              exact ⟨rfl, rfl⟩
          · rw [show (if n = 0 then (1 : Int) else if n % 2 = 0 then 1 * 1 else 1) = 1 from by split <;> (try split) <;> rfl]
            go_enter Tryd.func42, Tryd.ntmps42
            go_wp2_with (first | (go_at_call 64; refine (right_any _ _ _ _).mono ?_; rintro e w' ⟨rfl, rfl⟩))
            go_returns
            exact ⟨rfl, rfl⟩
        · have h2 : 2 ≤ mag a := by omega
          have e0 : (a == 0) = false := by rw [beq_eq_false_iff_ne]; rintro rfl; exact h1 (by decide)
          have e1 : (a == 1) = false := by rw [beq_eq_false_iff_ne]; rintro rfl; exact h1 (by decide)
          have e2 : (a == -1) = false := by rw [beq_eq_false_iff_ne]; rintro rfl; exact h1 (by decide)
          obtain ⟨N, rfl⟩ := Int.eq_ofNat_of_zero_le hn'
          go_enter Tryd.func42, Tryd.ntmps42
          go_wp2_with (first | (go_at_call 64; refine (right_any _ _ _ _).mono ?_; rintro e w' ⟨rfl, rfl⟩))
          clear h1
          go_loop [2, 9] (fun n out => ∃ k m : Nat, k + m = N ∧ n = .int .i64 m ∧ out = .int .i64 (pw a k) ∧ isI s (pw a k) = true) (fun n _ => (intOf n).toNat)
          case atStart => exact ⟨0, N, by omega, rfl, by simp [pw], by simpa [pw] using one_fits hs⟩
          case round =>
            obtain ⟨k, m, hk, rfl, rfl, hf⟩ := hrel
            have hsucc := Lib.hid (pw_succ a k)
            by_cases hm : 0 < m
            · obtain ⟨m', rfl⟩ : ∃ m', m = m' + 1 := ⟨m - 1, by omega⟩
              cases hx : isI s (pw a k * a)
              · have hfx : u2 s (pw a k) a (pw a k * a) = (0, 11) := by rw [u2_y hs, hf, ha, fit_n hx]; rfl
                go_wp2_with (first | (go_at_call 36; refine (rMul_any _ _ _ _).mono ?_; rintro e w' ⟨rfl, rfl⟩))
                go_returns
                exact ⟨by rw [fit_n (pw_big (k := k + 1) hs h2 (by omega) (by rw [Int.natCast_add, Int.natCast_one, hsucc.out]; exact hx))]; rfl, rfl⟩
              · have hfx : u2 s (pw a k) a (pw a k * a) = (pw a k * a, 0) := by rw [u2_y hs, hf, ha, fit_y hx]; rfl
                go_wp2_with (first | (go_at_call 36; refine (rMul_any _ _ _ _).mono ?_; rintro e w' ⟨rfl, rfl⟩))
                go_round
                case rel => exact ⟨k + 1, m', by omega, by go_num, by rw [Int.natCast_add, Int.natCast_one, hsucc.out], by rw [Int.natCast_add, Int.natCast_one, hsucc.out]; exact hx⟩
                case measure => simp [intOf]
            · obtain rfl : m = 0 := by omega
              obtain rfl : k = N := by omega
              go_wp2
              go_returns
              exact ⟨by rw [fit_y hf]; rfl, rfl⟩
    · rw [powR_out hs ha]
      go_enter Tryd.func42, Tryd.ntmps42
      go_wp2_with (first | (go_at_call 64; refine (right_any _ _ _ _).mono ?_; rintro e w' ⟨rfl, rfl⟩))
      go_returns
      exact ⟨by simp, rfl⟩
end Go.Proofs.YtkehmdocjjadnaaDoor
