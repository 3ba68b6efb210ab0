/- What the reference's operations on words return, for every size and numbers. No condition. -/
import Derived.Test.YtkehmdocjjadnaaDoorBitS
import Derived.Test.YtkehmdocjjadnaaDoorWords
namespace Go.Proofs.YtkehmdocjjadnaaDoor
open Go.ChangeShapes Go.WideShapes Go.ChangeAt Go.RowKit

theorem bitAt_any (W j v : Int) (w : World) (hW0 : 0 ≤ W) (hW : W ≤ 60) (hv0 : 0 ≤ v) (hj0 : -4611686018427387904 ≤ j) (hj : j ≤ 4611686018427387904) :
    Calls Tryd.prog 74 #[.int .i64 W, .int .i64 j, .int .i64 v] w fun e w' => e = .returned (.int .i64 (bt W j v)) ∧ w = w' := by
  by_cases h1 : j < 1
  · rw [bt_out (Or.inl h1)]
    go_enter Tryd.func74, Tryd.ntmps74
    go_wp2
    go_returns
    exact ⟨rfl, rfl⟩
  · by_cases h2 : W < j
    · rw [bt_out (Or.inr h2)]
      go_enter Tryd.func74, Tryd.ntmps74
      go_wp2
      go_returns
      exact ⟨rfl, rfl⟩
    · rw [bt_in h1 h2]
      have h3 : 0 ≤ v / 2 ^ (W - j).toNat := Int.ediv_nonneg hv0 (Int.pow_nonneg (by decide))
      have h4 : v / 2 ^ (W - j).toNat ≤ v := Int.ediv_le_self _ hv0
      go_enter Tryd.func74, Tryd.ntmps74
      go_wp2
      go_returns
      exact ⟨by simp, rfl⟩
theorem rNot_any (s a : Int) (w : World) :
    Calls Tryd.prog 46 #[.int .i64 s, .int .i64 a] w fun e w' => e = .returned (.tuple #[.int .i64 (w1 s a (mw s - a)).1, .int .i64 (w1 s a (mw s - a)).2]) ∧ w = w' := by
  cases hs : isSz s
  · rw [w1_no hs]
    have hm := fun ok => ck_no (ok := ok) hs
    go_enter Tryd.func46, Tryd.ntmps46
    go_wp2_with (first | (go_at_call 73; refine (words_any _ _ _ _).mono ?_; rintro e w' ⟨rfl, rfl⟩))
    go_returns
    exact ⟨by simp, rfl⟩
  · have hm1 := ck_t hs
    have hm2 := ck_f hs
    have hz := isW_zero hs
    rcases isW_or s a with ⟨ha, la, ua⟩ | ha
    · rw [w1_y hs, ha]
      rcases sz3 hs with rfl | rfl | rfl
      · clear hs
        have hsz : isSz (-1) = true := rfl
        have hwd : wd (-1) = 16 := rfl
        have hmx : mx (-1) = 32767 := rfl
        have hmw : mw (-1) = 65535 := rfl
        go_enter Tryd.func46, Tryd.ntmps46
        go_wp2_with (first | (go_at_call 73; refine (words_any _ _ _ _).mono ?_; rintro e w' ⟨rfl, rfl⟩) | (go_at_call 13; refine (rWidth_any _ _).mono ?_; rintro e w' ⟨rfl, rfl⟩))
        go_returns
        exact ⟨by simp, rfl⟩
      · clear hs
        have hsz : isSz (0) = true := rfl
        have hwd : wd (0) = 32 := rfl
        have hmx : mx (0) = 2147483647 := rfl
        have hmw : mw (0) = 4294967295 := rfl
        go_enter Tryd.func46, Tryd.ntmps46
        go_wp2_with (first | (go_at_call 73; refine (words_any _ _ _ _).mono ?_; rintro e w' ⟨rfl, rfl⟩) | (go_at_call 13; refine (rWidth_any _ _).mono ?_; rintro e w' ⟨rfl, rfl⟩))
        go_returns
        exact ⟨by simp, rfl⟩
      · clear hs
        have hsz : isSz (1) = true := rfl
        have hwd : wd (1) = 60 := rfl
        have hmx : mx (1) = 999999999999999999 := rfl
        have hmw : mw (1) = 1152921504606846975 := rfl
        go_enter Tryd.func46, Tryd.ntmps46
        go_wp2_with (first | (go_at_call 73; refine (words_any _ _ _ _).mono ?_; rintro e w' ⟨rfl, rfl⟩) | (go_at_call 13; refine (rWidth_any _ _).mono ?_; rintro e w' ⟨rfl, rfl⟩))
        go_returns
        exact ⟨by simp, rfl⟩
    · rw [w1_y hs, ha]
      go_enter Tryd.func46, Tryd.ntmps46
      go_wp2_with (first | (go_at_call 73; refine (words_any _ _ _ _).mono ?_; rintro e w' ⟨rfl, rfl⟩))
      go_returns
      exact ⟨by simp, rfl⟩
set_option maxHeartbeats 2000000 in
theorem rAnd_any (s a b : Int) (w : World) :
    Calls Tryd.prog 48 #[.int .i64 s, .int .i64 a, .int .i64 b] w fun e w' => e = .returned (.tuple #[.int .i64 (w2 s a b (andV a b)).1, .int .i64 (w2 s a b (andV a b)).2]) ∧ w = w' := by
  cases hs : isSz s
  · rw [w2_no hs]
    have hm := fun ok => ck_no (ok := ok) hs
    go_enter Tryd.func48, Tryd.ntmps48
    go_wp2_with (first | (go_at_call 73; refine (words_any _ _ _ _).mono ?_; rintro e w' ⟨rfl, rfl⟩))
    go_returns
    exact ⟨by simp, rfl⟩
  · have hm1 := ck_t hs
    have hm2 := ck_f hs
    rcases isW_or s a with ⟨ha, la, ua⟩ | ha <;> rcases isW_or s b with ⟨hb, lb, ub⟩ | hb
    · rw [w2_y hs, ha, hb]
      rcases sz3 hs with rfl | rfl | rfl
      · have ua : a ≤ 65535 := by have := of_decide_eq_true ha; simp [mw] at this; omega
        have ub : b ≤ 65535 := by have := of_decide_eq_true hb; simp [mw] at this; omega
        clear hs
        have hsz : isSz (-1) = true := rfl
        have hwd : wd (-1) = 16 := rfl
        have hmx : mx (-1) = 32767 := rfl
        have hmw : mw (-1) = 65535 := rfl
        obtain ⟨x, rfl⟩ := Int.eq_ofNat_of_zero_le la
        obtain ⟨y, rfl⟩ := Int.eq_ofNat_of_zero_le lb
        have hR : x &&& y < 2 ^ 16 := Nat.and_lt_two_pow _ (by omega)
        rw [show andV (x : Int) (y : Int) = ((x &&& y : Nat) : Int) from rfl]
        go_enter Tryd.func48, Tryd.ntmps48
        go_wp2_with (first | (go_at_call 73; refine (words_any _ _ _ _).mono ?_; rintro e w' ⟨rfl, rfl⟩) | (go_at_call 13; refine (rWidth_any _ _).mono ?_; rintro e w' ⟨rfl, rfl⟩))
        go_loop [11, 12] (fun out i => ∃ k : Nat, k ≤ 16 ∧ i = .int .i64 ((k : Int) + 1) ∧ out = .int .i64 (pre 16 (x &&& y) k)) (fun _ i => (16 + 1 - intOf i).toNat)
        case atStart => exact ⟨0, by omega, rfl, by rw [pre_zero hR]⟩
        case round =>
          obtain ⟨k, hk, rfl, rfl⟩ := hrel
          have hpl := (pre_le 16 (x &&& y) k hR (by omega)).1
          have hpu := (pre_le 16 (x &&& y) k hR (by omega)).2
          by_cases hlt : k < 16
          · have b1 := bt_01 16 ((k : Int) + 1) x
            have b2 := bt_01 16 ((k : Int) + 1) y
            obtain ⟨b3, b4⟩ := mul_01 b1 b2
            obtain ⟨b1, b1'⟩ := b1
            obtain ⟨b2, b2'⟩ := b2
            have hst := Lib.hid (and_step 16 x y k hlt)
            go_wp2_with (first | (go_at_call 74; refine (bitAt_any _ _ _ _ (by omega) (by omega) (by omega) (by omega) (by omega)).mono ?_; rintro e w' ⟨rfl, rfl⟩))
            go_round
            case rel => exact ⟨k + 1, by omega, by go_num, congrArg (Value.int .i64) hst.out.symm⟩
            case measure => simp [intOf]; omega
          · obtain rfl : k = 16 := by omega
            rw [pre_all]
            go_wp2
            go_returns
            exact ⟨rfl, rfl⟩
      · have ua : a ≤ 4294967295 := by have := of_decide_eq_true ha; simp [mw] at this; omega
        have ub : b ≤ 4294967295 := by have := of_decide_eq_true hb; simp [mw] at this; omega
        clear hs
        have hsz : isSz (0) = true := rfl
        have hwd : wd (0) = 32 := rfl
        have hmx : mx (0) = 2147483647 := rfl
        have hmw : mw (0) = 4294967295 := rfl
        obtain ⟨x, rfl⟩ := Int.eq_ofNat_of_zero_le la
        obtain ⟨y, rfl⟩ := Int.eq_ofNat_of_zero_le lb
        have hR : x &&& y < 2 ^ 32 := Nat.and_lt_two_pow _ (by omega)
        rw [show andV (x : Int) (y : Int) = ((x &&& y : Nat) : Int) from rfl]
        go_enter Tryd.func48, Tryd.ntmps48
        go_wp2_with (first | (go_at_call 73; refine (words_any _ _ _ _).mono ?_; rintro e w' ⟨rfl, rfl⟩) | (go_at_call 13; refine (rWidth_any _ _).mono ?_; rintro e w' ⟨rfl, rfl⟩))
        go_loop [11, 12] (fun out i => ∃ k : Nat, k ≤ 32 ∧ i = .int .i64 ((k : Int) + 1) ∧ out = .int .i64 (pre 32 (x &&& y) k)) (fun _ i => (32 + 1 - intOf i).toNat)
        case atStart => exact ⟨0, by omega, rfl, by rw [pre_zero hR]⟩
        case round =>
          obtain ⟨k, hk, rfl, rfl⟩ := hrel
          have hpl := (pre_le 32 (x &&& y) k hR (by omega)).1
          have hpu := (pre_le 32 (x &&& y) k hR (by omega)).2
          by_cases hlt : k < 32
          · have b1 := bt_01 32 ((k : Int) + 1) x
            have b2 := bt_01 32 ((k : Int) + 1) y
            obtain ⟨b3, b4⟩ := mul_01 b1 b2
            obtain ⟨b1, b1'⟩ := b1
            obtain ⟨b2, b2'⟩ := b2
            have hst := Lib.hid (and_step 32 x y k hlt)
            go_wp2_with (first | (go_at_call 74; refine (bitAt_any _ _ _ _ (by omega) (by omega) (by omega) (by omega) (by omega)).mono ?_; rintro e w' ⟨rfl, rfl⟩))
            go_round
            case rel => exact ⟨k + 1, by omega, by go_num, congrArg (Value.int .i64) hst.out.symm⟩
            case measure => simp [intOf]; omega
          · obtain rfl : k = 32 := by omega
            rw [pre_all]
            go_wp2
            go_returns
            exact ⟨rfl, rfl⟩
      · have ua : a ≤ 1152921504606846975 := by have := of_decide_eq_true ha; simp [mw] at this; omega
        have ub : b ≤ 1152921504606846975 := by have := of_decide_eq_true hb; simp [mw] at this; omega
        clear hs
        have hsz : isSz (1) = true := rfl
        have hwd : wd (1) = 60 := rfl
        have hmx : mx (1) = 999999999999999999 := rfl
        have hmw : mw (1) = 1152921504606846975 := rfl
        obtain ⟨x, rfl⟩ := Int.eq_ofNat_of_zero_le la
        obtain ⟨y, rfl⟩ := Int.eq_ofNat_of_zero_le lb
        have hR : x &&& y < 2 ^ 60 := Nat.and_lt_two_pow _ (by omega)
        rw [show andV (x : Int) (y : Int) = ((x &&& y : Nat) : Int) from rfl]
        go_enter Tryd.func48, Tryd.ntmps48
        go_wp2_with (first | (go_at_call 73; refine (words_any _ _ _ _).mono ?_; rintro e w' ⟨rfl, rfl⟩) | (go_at_call 13; refine (rWidth_any _ _).mono ?_; rintro e w' ⟨rfl, rfl⟩))
        go_loop [11, 12] (fun out i => ∃ k : Nat, k ≤ 60 ∧ i = .int .i64 ((k : Int) + 1) ∧ out = .int .i64 (pre 60 (x &&& y) k)) (fun _ i => (60 + 1 - intOf i).toNat)
        case atStart => exact ⟨0, by omega, rfl, by rw [pre_zero hR]⟩
        case round =>
          obtain ⟨k, hk, rfl, rfl⟩ := hrel
          have hpl := (pre_le 60 (x &&& y) k hR (by omega)).1
          have hpu := (pre_le 60 (x &&& y) k hR (by omega)).2
          by_cases hlt : k < 60
          · have b1 := bt_01 60 ((k : Int) + 1) x
            have b2 := bt_01 60 ((k : Int) + 1) y
            obtain ⟨b3, b4⟩ := mul_01 b1 b2
            obtain ⟨b1, b1'⟩ := b1
            obtain ⟨b2, b2'⟩ := b2
            have hst := Lib.hid (and_step 60 x y k hlt)
            go_wp2_with (first | (go_at_call 74; refine (bitAt_any _ _ _ _ (by omega) (by omega) (by omega) (by omega) (by omega)).mono ?_; rintro e w' ⟨rfl, rfl⟩))
            go_round
            case rel => exact ⟨k + 1, by omega, by go_num, congrArg (Value.int .i64) hst.out.symm⟩
            case measure => simp [intOf]; omega
          · obtain rfl : k = 60 := by omega
            rw [pre_all]
            go_wp2
            go_returns
            exact ⟨rfl, rfl⟩
    all_goals
      rw [w2_y hs, ha, hb]
      go_enter Tryd.func48, Tryd.ntmps48
      go_wp2_with (first | (go_at_call 73; refine (words_any _ _ _ _).mono ?_; rintro e w' ⟨rfl, rfl⟩))
      go_returns
      exact ⟨by simp, rfl⟩
set_option maxHeartbeats 2000000 in
theorem rOr_any (s a b : Int) (w : World) :
    Calls Tryd.prog 50 #[.int .i64 s, .int .i64 a, .int .i64 b] w fun e w' => e = .returned (.tuple #[.int .i64 (w2 s a b (orV a b)).1, .int .i64 (w2 s a b (orV a b)).2]) ∧ w = w' := by
  cases hs : isSz s
  · rw [w2_no hs]
    have hm := fun ok => ck_no (ok := ok) hs
    go_enter Tryd.func50, Tryd.ntmps50
    go_wp2_with (first | (go_at_call 73; refine (words_any _ _ _ _).mono ?_; rintro e w' ⟨rfl, rfl⟩))
    go_returns
    exact ⟨by simp, rfl⟩
  · have hm1 := ck_t hs
    have hm2 := ck_f hs
    rcases isW_or s a with ⟨ha, la, ua⟩ | ha <;> rcases isW_or s b with ⟨hb, lb, ub⟩ | hb
    · rw [w2_y hs, ha, hb]
      rcases sz3 hs with rfl | rfl | rfl
      · have ua : a ≤ 65535 := by have := of_decide_eq_true ha; simp [mw] at this; omega
        have ub : b ≤ 65535 := by have := of_decide_eq_true hb; simp [mw] at this; omega
        clear hs
        have hsz : isSz (-1) = true := rfl
        have hwd : wd (-1) = 16 := rfl
        have hmx : mx (-1) = 32767 := rfl
        have hmw : mw (-1) = 65535 := rfl
        obtain ⟨x, rfl⟩ := Int.eq_ofNat_of_zero_le la
        obtain ⟨y, rfl⟩ := Int.eq_ofNat_of_zero_le lb
        have hR : x ||| y < 2 ^ 16 := Nat.or_lt_two_pow (by omega) (by omega)
        rw [show orV (x : Int) (y : Int) = ((x ||| y : Nat) : Int) from rfl]
        go_enter Tryd.func50, Tryd.ntmps50
        go_wp2_with (first | (go_at_call 73; refine (words_any _ _ _ _).mono ?_; rintro e w' ⟨rfl, rfl⟩) | (go_at_call 13; refine (rWidth_any _ _).mono ?_; rintro e w' ⟨rfl, rfl⟩))
        go_loop [11, 12] (fun out i => ∃ k : Nat, k ≤ 16 ∧ i = .int .i64 ((k : Int) + 1) ∧ out = .int .i64 (pre 16 (x ||| y) k)) (fun _ i => (16 + 1 - intOf i).toNat)
        case atStart => exact ⟨0, by omega, rfl, by rw [pre_zero hR]⟩
        case round =>
          obtain ⟨k, hk, rfl, rfl⟩ := hrel
          have hpl := (pre_le 16 (x ||| y) k hR (by omega)).1
          have hpu := (pre_le 16 (x ||| y) k hR (by omega)).2
          by_cases hlt : k < 16
          · have b1 := bt_01 16 ((k : Int) + 1) x
            have b2 := bt_01 16 ((k : Int) + 1) y
            obtain ⟨b1, b1'⟩ := b1
            obtain ⟨b2, b2'⟩ := b2
            by_cases hx : bt 16 ((k : Int) + 1) x = 1
            · have hst := Lib.hid (or_step1 16 x y k hlt (Or.inl hx))
              go_wp2_with (first | (go_at_call 74; refine (bitAt_any _ _ _ _ (by omega) (by omega) (by omega) (by omega) (by omega)).mono ?_; rintro e w' ⟨rfl, rfl⟩))
              go_round
              case rel => exact ⟨k + 1, by omega, by go_num, congrArg (Value.int .i64) (by rw [hst.out]; omega)⟩
              case measure => simp [intOf]; omega
            · have hx' : (bt 16 ((k : Int) + 1) x == 1) = false := by simpa using hx
              by_cases hy : bt 16 ((k : Int) + 1) y = 1
              · have hst := Lib.hid (or_step1 16 x y k hlt (Or.inr hy))
                go_wp2_with (first | (go_at_call 74; refine (bitAt_any _ _ _ _ (by omega) (by omega) (by omega) (by omega) (by omega)).mono ?_; rintro e w' ⟨rfl, rfl⟩))
                go_round
                case rel => exact ⟨k + 1, by omega, by go_num, congrArg (Value.int .i64) (by rw [hst.out]; omega)⟩
                case measure => simp [intOf]; omega
              · have hy' : (bt 16 ((k : Int) + 1) y == 1) = false := by simpa using hy
                have hst := Lib.hid (or_step0 16 x y k hlt hx hy)
                go_wp2_with (first | (go_at_call 74; refine (bitAt_any _ _ _ _ (by omega) (by omega) (by omega) (by omega) (by omega)).mono ?_; rintro e w' ⟨rfl, rfl⟩))
                go_round
                case rel => exact ⟨k + 1, by omega, by go_num, congrArg (Value.int .i64) (by rw [hst.out]; omega)⟩
                case measure => simp [intOf]; omega
          · obtain rfl : k = 16 := by omega
            rw [pre_all]
            go_wp2
            go_returns
            exact ⟨rfl, rfl⟩
      · have ua : a ≤ 4294967295 := by have := of_decide_eq_true ha; simp [mw] at this; omega
        have ub : b ≤ 4294967295 := by have := of_decide_eq_true hb; simp [mw] at this; omega
        clear hs
        have hsz : isSz (0) = true := rfl
        have hwd : wd (0) = 32 := rfl
        have hmx : mx (0) = 2147483647 := rfl
        have hmw : mw (0) = 4294967295 := rfl
        obtain ⟨x, rfl⟩ := Int.eq_ofNat_of_zero_le la
        obtain ⟨y, rfl⟩ := Int.eq_ofNat_of_zero_le lb
        have hR : x ||| y < 2 ^ 32 := Nat.or_lt_two_pow (by omega) (by omega)
        rw [show orV (x : Int) (y : Int) = ((x ||| y : Nat) : Int) from rfl]
        go_enter Tryd.func50, Tryd.ntmps50
        go_wp2_with (first | (go_at_call 73; refine (words_any _ _ _ _).mono ?_; rintro e w' ⟨rfl, rfl⟩) | (go_at_call 13; refine (rWidth_any _ _).mono ?_; rintro e w' ⟨rfl, rfl⟩))
        go_loop [11, 12] (fun out i => ∃ k : Nat, k ≤ 32 ∧ i = .int .i64 ((k : Int) + 1) ∧ out = .int .i64 (pre 32 (x ||| y) k)) (fun _ i => (32 + 1 - intOf i).toNat)
        case atStart => exact ⟨0, by omega, rfl, by rw [pre_zero hR]⟩
        case round =>
          obtain ⟨k, hk, rfl, rfl⟩ := hrel
          have hpl := (pre_le 32 (x ||| y) k hR (by omega)).1
          have hpu := (pre_le 32 (x ||| y) k hR (by omega)).2
          by_cases hlt : k < 32
          · have b1 := bt_01 32 ((k : Int) + 1) x
            have b2 := bt_01 32 ((k : Int) + 1) y
            obtain ⟨b1, b1'⟩ := b1
            obtain ⟨b2, b2'⟩ := b2
            by_cases hx : bt 32 ((k : Int) + 1) x = 1
            · have hst := Lib.hid (or_step1 32 x y k hlt (Or.inl hx))
              go_wp2_with (first | (go_at_call 74; refine (bitAt_any _ _ _ _ (by omega) (by omega) (by omega) (by omega) (by omega)).mono ?_; rintro e w' ⟨rfl, rfl⟩))
              go_round
              case rel => exact ⟨k + 1, by omega, by go_num, congrArg (Value.int .i64) (by rw [hst.out]; omega)⟩
              case measure => simp [intOf]; omega
            · have hx' : (bt 32 ((k : Int) + 1) x == 1) = false := by simpa using hx
              by_cases hy : bt 32 ((k : Int) + 1) y = 1
              · have hst := Lib.hid (or_step1 32 x y k hlt (Or.inr hy))
                go_wp2_with (first | (go_at_call 74; refine (bitAt_any _ _ _ _ (by omega) (by omega) (by omega) (by omega) (by omega)).mono ?_; rintro e w' ⟨rfl, rfl⟩))
                go_round
                case rel => exact ⟨k + 1, by omega, by go_num, congrArg (Value.int .i64) (by rw [hst.out]; omega)⟩
                case measure => simp [intOf]; omega
              · have hy' : (bt 32 ((k : Int) + 1) y == 1) = false := by simpa using hy
                have hst := Lib.hid (or_step0 32 x y k hlt hx hy)
                go_wp2_with (first | (go_at_call 74; refine (bitAt_any _ _ _ _ (by omega) (by omega) (by omega) (by omega) (by omega)).mono ?_; rintro e w' ⟨rfl, rfl⟩))
                go_round
                case rel => exact ⟨k + 1, by omega, by go_num, congrArg (Value.int .i64) (by rw [hst.out]; omega)⟩
                case measure => simp [intOf]; omega
          · obtain rfl : k = 32 := by omega
            rw [pre_all]
            go_wp2
            go_returns
            exact ⟨rfl, rfl⟩
      · have ua : a ≤ 1152921504606846975 := by have := of_decide_eq_true ha; simp [mw] at this; omega
        have ub : b ≤ 1152921504606846975 := by have := of_decide_eq_true hb; simp [mw] at this; omega
        clear hs
        have hsz : isSz (1) = true := rfl
        have hwd : wd (1) = 60 := rfl
        have hmx : mx (1) = 999999999999999999 := rfl
        have hmw : mw (1) = 1152921504606846975 := rfl
        obtain ⟨x, rfl⟩ := Int.eq_ofNat_of_zero_le la
        obtain ⟨y, rfl⟩ := Int.eq_ofNat_of_zero_le lb
        have hR : x ||| y < 2 ^ 60 := Nat.or_lt_two_pow (by omega) (by omega)
        rw [show orV (x : Int) (y : Int) = ((x ||| y : Nat) : Int) from rfl]
        go_enter Tryd.func50, Tryd.ntmps50
        go_wp2_with (first | (go_at_call 73; refine (words_any _ _ _ _).mono ?_; rintro e w' ⟨rfl, rfl⟩) | (go_at_call 13; refine (rWidth_any _ _).mono ?_; rintro e w' ⟨rfl, rfl⟩))
        go_loop [11, 12] (fun out i => ∃ k : Nat, k ≤ 60 ∧ i = .int .i64 ((k : Int) + 1) ∧ out = .int .i64 (pre 60 (x ||| y) k)) (fun _ i => (60 + 1 - intOf i).toNat)
        case atStart => exact ⟨0, by omega, rfl, by rw [pre_zero hR]⟩
        case round =>
          obtain ⟨k, hk, rfl, rfl⟩ := hrel
          have hpl := (pre_le 60 (x ||| y) k hR (by omega)).1
          have hpu := (pre_le 60 (x ||| y) k hR (by omega)).2
          by_cases hlt : k < 60
          · have b1 := bt_01 60 ((k : Int) + 1) x
            have b2 := bt_01 60 ((k : Int) + 1) y
            obtain ⟨b1, b1'⟩ := b1
            obtain ⟨b2, b2'⟩ := b2
            by_cases hx : bt 60 ((k : Int) + 1) x = 1
            · have hst := Lib.hid (or_step1 60 x y k hlt (Or.inl hx))
              go_wp2_with (first | (go_at_call 74; refine (bitAt_any _ _ _ _ (by omega) (by omega) (by omega) (by omega) (by omega)).mono ?_; rintro e w' ⟨rfl, rfl⟩))
              go_round
              case rel => exact ⟨k + 1, by omega, by go_num, congrArg (Value.int .i64) (by rw [hst.out]; omega)⟩
              case measure => simp [intOf]; omega
            · have hx' : (bt 60 ((k : Int) + 1) x == 1) = false := by simpa using hx
              by_cases hy : bt 60 ((k : Int) + 1) y = 1
              · have hst := Lib.hid (or_step1 60 x y k hlt (Or.inr hy))
                go_wp2_with (first | (go_at_call 74; refine (bitAt_any _ _ _ _ (by omega) (by omega) (by omega) (by omega) (by omega)).mono ?_; rintro e w' ⟨rfl, rfl⟩))
                go_round
                case rel => exact ⟨k + 1, by omega, by go_num, congrArg (Value.int .i64) (by rw [hst.out]; omega)⟩
                case measure => simp [intOf]; omega
              · have hy' : (bt 60 ((k : Int) + 1) y == 1) = false := by simpa using hy
                have hst := Lib.hid (or_step0 60 x y k hlt hx hy)
                go_wp2_with (first | (go_at_call 74; refine (bitAt_any _ _ _ _ (by omega) (by omega) (by omega) (by omega) (by omega)).mono ?_; rintro e w' ⟨rfl, rfl⟩))
                go_round
                case rel => exact ⟨k + 1, by omega, by go_num, congrArg (Value.int .i64) (by rw [hst.out]; omega)⟩
                case measure => simp [intOf]; omega
          · obtain rfl : k = 60 := by omega
            rw [pre_all]
            go_wp2
            go_returns
            exact ⟨rfl, rfl⟩
    all_goals
      rw [w2_y hs, ha, hb]
      go_enter Tryd.func50, Tryd.ntmps50
      go_wp2_with (first | (go_at_call 73; refine (words_any _ _ _ _).mono ?_; rintro e w' ⟨rfl, rfl⟩))
      go_returns
      exact ⟨by simp, rfl⟩
set_option maxHeartbeats 2000000 in
theorem rShift_any (s a n : Int) (w : World) :
    Calls Tryd.prog 52 #[.int .i64 s, .int .i64 a, .int .i64 n] w fun e w' => e = .returned (.tuple #[.int .i64 (w1 s a (shV s a n)).1, .int .i64 (w1 s a (shV s a n)).2]) ∧ w = w' := by
  cases hs : isSz s
  · rw [w1_no hs]
    have hm := fun ok => ck_no (ok := ok) hs
    go_enter Tryd.func52, Tryd.ntmps52
    go_wp2_with (first | (go_at_call 73; refine (words_any _ _ _ _).mono ?_; rintro e w' ⟨rfl, rfl⟩))
    go_returns
    exact ⟨by simp, rfl⟩
  · have hm1 := ck_t hs
    have hm2 := ck_f hs
    have hz := isW_zero hs
    rcases isW_or s a with ⟨ha, la, ua⟩ | ha
    · rw [w1_y hs, ha]
      rcases sz3 hs with rfl | rfl | rfl
      · have ua : a ≤ 65535 := by have := of_decide_eq_true ha; simp [mw] at this; omega
        clear hs
        have hsz : isSz (-1) = true := rfl
        have hwd : wd (-1) = 16 := rfl
        have hmx : mx (-1) = 32767 := rfl
        have hmw : mw (-1) = 65535 := rfl
        rcases (by omega : 16 ≤ n ∨ n ≤ -16 ∨ (-16 < n ∧ n < 16)) with h | h | ⟨h, h'⟩
        · rw [shV_big hwd (Or.inl h)]
          go_enter Tryd.func52, Tryd.ntmps52
          go_wp2_with (first | (go_at_call 73; refine (words_any _ _ _ _).mono ?_; rintro e w' ⟨rfl, rfl⟩) | (go_at_call 13; refine (rWidth_any _ _).mono ?_; rintro e w' ⟨rfl, rfl⟩))
          go_returns
          exact ⟨by simp, rfl⟩
        · rw [shV_big hwd (Or.inr h)]
          have h2 : ¬ 16 ≤ n := by omega
          go_enter Tryd.func52, Tryd.ntmps52
          go_wp2_with (first | (go_at_call 73; refine (words_any _ _ _ _).mono ?_; rintro e w' ⟨rfl, rfl⟩) | (go_at_call 13; refine (rWidth_any _ _).mono ?_; rintro e w' ⟨rfl, rfl⟩))
          go_returns
          exact ⟨by simp, rfl⟩
        · obtain ⟨x, rfl⟩ := Int.eq_ofNat_of_zero_le la
          have hR : shN 16 x n < 2 ^ 16 := shN_lt (by omega)
          rw [show shV (-1) (x : Int) n = (shN 16 x n : Int) from rfl]
          have h2 : ¬ 16 ≤ n := by omega
          have h3 : ¬ n ≤ -16 := by omega
          go_enter Tryd.func52, Tryd.ntmps52
          go_wp2_with (first | (go_at_call 73; refine (words_any _ _ _ _).mono ?_; rintro e w' ⟨rfl, rfl⟩) | (go_at_call 13; refine (rWidth_any _ _).mono ?_; rintro e w' ⟨rfl, rfl⟩))
          go_loop [11, 12] (fun out i => ∃ k : Nat, k ≤ 16 ∧ i = .int .i64 ((k : Int) + 1) ∧ out = .int .i64 (pre 16 (shN 16 x n) k)) (fun _ i => (16 + 1 - intOf i).toNat)
          case atStart => exact ⟨0, by omega, rfl, by rw [pre_zero hR]⟩
          case round =>
            obtain ⟨k, hk, rfl, rfl⟩ := hrel
            have hpl := (pre_le 16 (shN 16 x n) k hR (by omega)).1
            have hpu := (pre_le 16 (shN 16 x n) k hR (by omega)).2
            by_cases hlt : k < 16
            · have b1 := bt_01 16 ((k : Int) + 1 + n) x
              obtain ⟨b1, b1'⟩ := b1
              have hst := Lib.hid (sh_step 16 x k n (by omega) hlt)
              go_wp2_with (first | (go_at_call 74; refine (bitAt_any _ _ _ _ (by omega) (by omega) (by omega) (by omega) (by omega)).mono ?_; rintro e w' ⟨rfl, rfl⟩))
              go_round
              case rel => exact ⟨k + 1, by omega, by go_num, congrArg (Value.int .i64) hst.out.symm⟩
              case measure => simp [intOf]; omega
            · obtain rfl : k = 16 := by omega
              rw [pre_all]
              go_wp2
              go_returns
              exact ⟨rfl, rfl⟩
      · have ua : a ≤ 4294967295 := by have := of_decide_eq_true ha; simp [mw] at this; omega
        clear hs
        have hsz : isSz (0) = true := rfl
        have hwd : wd (0) = 32 := rfl
        have hmx : mx (0) = 2147483647 := rfl
        have hmw : mw (0) = 4294967295 := rfl
        rcases (by omega : 32 ≤ n ∨ n ≤ -32 ∨ (-32 < n ∧ n < 32)) with h | h | ⟨h, h'⟩
        · rw [shV_big hwd (Or.inl h)]
          go_enter Tryd.func52, Tryd.ntmps52
          go_wp2_with (first | (go_at_call 73; refine (words_any _ _ _ _).mono ?_; rintro e w' ⟨rfl, rfl⟩) | (go_at_call 13; refine (rWidth_any _ _).mono ?_; rintro e w' ⟨rfl, rfl⟩))
          go_returns
          exact ⟨by simp, rfl⟩
        · rw [shV_big hwd (Or.inr h)]
          have h2 : ¬ 32 ≤ n := by omega
          go_enter Tryd.func52, Tryd.ntmps52
          go_wp2_with (first | (go_at_call 73; refine (words_any _ _ _ _).mono ?_; rintro e w' ⟨rfl, rfl⟩) | (go_at_call 13; refine (rWidth_any _ _).mono ?_; rintro e w' ⟨rfl, rfl⟩))
          go_returns
          exact ⟨by simp, rfl⟩
        · obtain ⟨x, rfl⟩ := Int.eq_ofNat_of_zero_le la
          have hR : shN 32 x n < 2 ^ 32 := shN_lt (by omega)
          rw [show shV (0) (x : Int) n = (shN 32 x n : Int) from rfl]
          have h2 : ¬ 32 ≤ n := by omega
          have h3 : ¬ n ≤ -32 := by omega
          go_enter Tryd.func52, Tryd.ntmps52
          go_wp2_with (first | (go_at_call 73; refine (words_any _ _ _ _).mono ?_; rintro e w' ⟨rfl, rfl⟩) | (go_at_call 13; refine (rWidth_any _ _).mono ?_; rintro e w' ⟨rfl, rfl⟩))
          go_loop [11, 12] (fun out i => ∃ k : Nat, k ≤ 32 ∧ i = .int .i64 ((k : Int) + 1) ∧ out = .int .i64 (pre 32 (shN 32 x n) k)) (fun _ i => (32 + 1 - intOf i).toNat)
          case atStart => exact ⟨0, by omega, rfl, by rw [pre_zero hR]⟩
          case round =>
            obtain ⟨k, hk, rfl, rfl⟩ := hrel
            have hpl := (pre_le 32 (shN 32 x n) k hR (by omega)).1
            have hpu := (pre_le 32 (shN 32 x n) k hR (by omega)).2
            by_cases hlt : k < 32
            · have b1 := bt_01 32 ((k : Int) + 1 + n) x
              obtain ⟨b1, b1'⟩ := b1
              have hst := Lib.hid (sh_step 32 x k n (by omega) hlt)
              go_wp2_with (first | (go_at_call 74; refine (bitAt_any _ _ _ _ (by omega) (by omega) (by omega) (by omega) (by omega)).mono ?_; rintro e w' ⟨rfl, rfl⟩))
              go_round
              case rel => exact ⟨k + 1, by omega, by go_num, congrArg (Value.int .i64) hst.out.symm⟩
              case measure => simp [intOf]; omega
            · obtain rfl : k = 32 := by omega
              rw [pre_all]
              go_wp2
              go_returns
              exact ⟨rfl, rfl⟩
      · have ua : a ≤ 1152921504606846975 := by have := of_decide_eq_true ha; simp [mw] at this; omega
        clear hs
        have hsz : isSz (1) = true := rfl
        have hwd : wd (1) = 60 := rfl
        have hmx : mx (1) = 999999999999999999 := rfl
        have hmw : mw (1) = 1152921504606846975 := rfl
        rcases (by omega : 60 ≤ n ∨ n ≤ -60 ∨ (-60 < n ∧ n < 60)) with h | h | ⟨h, h'⟩
        · rw [shV_big hwd (Or.inl h)]
          go_enter Tryd.func52, Tryd.ntmps52
          go_wp2_with (first | (go_at_call 73; refine (words_any _ _ _ _).mono ?_; rintro e w' ⟨rfl, rfl⟩) | (go_at_call 13; refine (rWidth_any _ _).mono ?_; rintro e w' ⟨rfl, rfl⟩))
          go_returns
          exact ⟨by simp, rfl⟩
        · rw [shV_big hwd (Or.inr h)]
          have h2 : ¬ 60 ≤ n := by omega
          go_enter Tryd.func52, Tryd.ntmps52
          go_wp2_with (first | (go_at_call 73; refine (words_any _ _ _ _).mono ?_; rintro e w' ⟨rfl, rfl⟩) | (go_at_call 13; refine (rWidth_any _ _).mono ?_; rintro e w' ⟨rfl, rfl⟩))
          go_returns
          exact ⟨by simp, rfl⟩
        · obtain ⟨x, rfl⟩ := Int.eq_ofNat_of_zero_le la
          have hR : shN 60 x n < 2 ^ 60 := shN_lt (by omega)
          rw [show shV (1) (x : Int) n = (shN 60 x n : Int) from rfl]
          have h2 : ¬ 60 ≤ n := by omega
          have h3 : ¬ n ≤ -60 := by omega
          go_enter Tryd.func52, Tryd.ntmps52
          go_wp2_with (first | (go_at_call 73; refine (words_any _ _ _ _).mono ?_; rintro e w' ⟨rfl, rfl⟩) | (go_at_call 13; refine (rWidth_any _ _).mono ?_; rintro e w' ⟨rfl, rfl⟩))
          go_loop [11, 12] (fun out i => ∃ k : Nat, k ≤ 60 ∧ i = .int .i64 ((k : Int) + 1) ∧ out = .int .i64 (pre 60 (shN 60 x n) k)) (fun _ i => (60 + 1 - intOf i).toNat)
          case atStart => exact ⟨0, by omega, rfl, by rw [pre_zero hR]⟩
          case round =>
            obtain ⟨k, hk, rfl, rfl⟩ := hrel
            have hpl := (pre_le 60 (shN 60 x n) k hR (by omega)).1
            have hpu := (pre_le 60 (shN 60 x n) k hR (by omega)).2
            by_cases hlt : k < 60
            · have b1 := bt_01 60 ((k : Int) + 1 + n) x
              obtain ⟨b1, b1'⟩ := b1
              have hst := Lib.hid (sh_step 60 x k n (by omega) hlt)
              go_wp2_with (first | (go_at_call 74; refine (bitAt_any _ _ _ _ (by omega) (by omega) (by omega) (by omega) (by omega)).mono ?_; rintro e w' ⟨rfl, rfl⟩))
              go_round
              case rel => exact ⟨k + 1, by omega, by go_num, congrArg (Value.int .i64) hst.out.symm⟩
              case measure => simp [intOf]; omega
            · obtain rfl : k = 60 := by omega
              rw [pre_all]
              go_wp2
              go_returns
              exact ⟨rfl, rfl⟩
    · rw [w1_y hs, ha]
      go_enter Tryd.func52, Tryd.ntmps52
      go_wp2_with (first | (go_at_call 73; refine (words_any _ _ _ _).mono ?_; rintro e w' ⟨rfl, rfl⟩))
      go_returns
      exact ⟨by simp, rfl⟩
set_option maxHeartbeats 1000000 in
theorem rElem_any (s i a : Int) (w : World) :
    Calls Tryd.prog 44 #[.int .i64 s, .int .i64 i, .int .i64 a] w fun e w' => e = .returned (.tuple #[.bool (el s i a).1, .int .i64 (el s i a).2]) ∧ w = w' := by
  cases hs : isSz s
  · rw [el_no hs]
    have hm := fun ok => ck_no (ok := ok) hs
    go_enter Tryd.func44, Tryd.ntmps44
    go_wp2_with (first | (go_at_call 73; refine (words_any _ _ _ _).mono ?_; rintro e w' ⟨rfl, rfl⟩))
    go_returns
    exact ⟨by simp, rfl⟩
  · have hm1 := ck_t hs
    have hm2 := ck_f hs
    have hz := isW_zero hs
    rcases isW_or s a with ⟨ha, la, ua⟩ | ha
    · rcases sz3 hs with rfl | rfl | rfl
      · skip
        have hsz : isSz (-1) = true := rfl
        have hwd : wd (-1) = 16 := rfl
        have hmx : mx (-1) = 32767 := rfl
        have hmw : mw (-1) = 65535 := rfl
        by_cases h1 : i < 1
        · rw [el_out hs ha (Or.inl h1)]
          go_enter Tryd.func44, Tryd.ntmps44
          go_wp2_with (first | (go_at_call 73; refine (words_any _ _ _ _).mono ?_; rintro e w' ⟨rfl, rfl⟩) | (go_at_call 13; refine (rWidth_any _ _).mono ?_; rintro e w' ⟨rfl, rfl⟩))
          go_returns
          exact ⟨by simp, rfl⟩
        · by_cases h2 : 16 < i
          · rw [el_out hs ha (Or.inr (by rw [hwd]; exact h2))]
            go_enter Tryd.func44, Tryd.ntmps44
            go_wp2_with (first | (go_at_call 73; refine (words_any _ _ _ _).mono ?_; rintro e w' ⟨rfl, rfl⟩) | (go_at_call 13; refine (rWidth_any _ _).mono ?_; rintro e w' ⟨rfl, rfl⟩))
            go_returns
            exact ⟨by simp, rfl⟩
          · rw [el_in hs ha (by omega), hwd]
            go_enter Tryd.func44, Tryd.ntmps44
            go_wp2_with (first | (go_at_call 73; refine (words_any _ _ _ _).mono ?_; rintro e w' ⟨rfl, rfl⟩) | (go_at_call 13; refine (rWidth_any _ _).mono ?_; rintro e w' ⟨rfl, rfl⟩) | (go_at_call 74; refine (bitAt_any _ _ _ _ (by omega) (by omega) (by omega) (by omega) (by omega)).mono ?_; rintro e w' ⟨rfl, rfl⟩))
            go_returns
            exact ⟨by simp, rfl⟩
      · skip
        have hsz : isSz (0) = true := rfl
        have hwd : wd (0) = 32 := rfl
        have hmx : mx (0) = 2147483647 := rfl
        have hmw : mw (0) = 4294967295 := rfl
        by_cases h1 : i < 1
        · rw [el_out hs ha (Or.inl h1)]
          go_enter Tryd.func44, Tryd.ntmps44
          go_wp2_with (first | (go_at_call 73; refine (words_any _ _ _ _).mono ?_; rintro e w' ⟨rfl, rfl⟩) | (go_at_call 13; refine (rWidth_any _ _).mono ?_; rintro e w' ⟨rfl, rfl⟩))
          go_returns
          exact ⟨by simp, rfl⟩
        · by_cases h2 : 32 < i
          · rw [el_out hs ha (Or.inr (by rw [hwd]; exact h2))]
            go_enter Tryd.func44, Tryd.ntmps44
            go_wp2_with (first | (go_at_call 73; refine (words_any _ _ _ _).mono ?_; rintro e w' ⟨rfl, rfl⟩) | (go_at_call 13; refine (rWidth_any _ _).mono ?_; rintro e w' ⟨rfl, rfl⟩))
            go_returns
            exact ⟨by simp, rfl⟩
          · rw [el_in hs ha (by omega), hwd]
            go_enter Tryd.func44, Tryd.ntmps44
            go_wp2_with (first | (go_at_call 73; refine (words_any _ _ _ _).mono ?_; rintro e w' ⟨rfl, rfl⟩) | (go_at_call 13; refine (rWidth_any _ _).mono ?_; rintro e w' ⟨rfl, rfl⟩) | (go_at_call 74; refine (bitAt_any _ _ _ _ (by omega) (by omega) (by omega) (by omega) (by omega)).mono ?_; rintro e w' ⟨rfl, rfl⟩))
            go_returns
            exact ⟨by simp, rfl⟩
      · skip
        have hsz : isSz (1) = true := rfl
        have hwd : wd (1) = 60 := rfl
        have hmx : mx (1) = 999999999999999999 := rfl
        have hmw : mw (1) = 1152921504606846975 := rfl
        by_cases h1 : i < 1
        · rw [el_out hs ha (Or.inl h1)]
          go_enter Tryd.func44, Tryd.ntmps44
          go_wp2_with (first | (go_at_call 73; refine (words_any _ _ _ _).mono ?_; rintro e w' ⟨rfl, rfl⟩) | (go_at_call 13; refine (rWidth_any _ _).mono ?_; rintro e w' ⟨rfl, rfl⟩))
          go_returns
          exact ⟨by simp, rfl⟩
        · by_cases h2 : 60 < i
          · rw [el_out hs ha (Or.inr (by rw [hwd]; exact h2))]
            go_enter Tryd.func44, Tryd.ntmps44
            go_wp2_with (first | (go_at_call 73; refine (words_any _ _ _ _).mono ?_; rintro e w' ⟨rfl, rfl⟩) | (go_at_call 13; refine (rWidth_any _ _).mono ?_; rintro e w' ⟨rfl, rfl⟩))
            go_returns
            exact ⟨by simp, rfl⟩
          · rw [el_in hs ha (by omega), hwd]
            go_enter Tryd.func44, Tryd.ntmps44
            go_wp2_with (first | (go_at_call 73; refine (words_any _ _ _ _).mono ?_; rintro e w' ⟨rfl, rfl⟩) | (go_at_call 13; refine (rWidth_any _ _).mono ?_; rintro e w' ⟨rfl, rfl⟩) | (go_at_call 74; refine (bitAt_any _ _ _ _ (by omega) (by omega) (by omega) (by omega) (by omega)).mono ?_; rintro e w' ⟨rfl, rfl⟩))
            go_returns
            exact ⟨by simp, rfl⟩
    · rw [el_bad hs ha]
      go_enter Tryd.func44, Tryd.ntmps44
      go_wp2_with (first | (go_at_call 73; refine (words_any _ _ _ _).mono ?_; rintro e w' ⟨rfl, rfl⟩))
      go_returns
      exact ⟨by simp, rfl⟩
theorem rBin_any (s a : Int) (w : World) :
    Calls Tryd.prog 54 #[.int .i64 s, .int .i64 a] w fun e w' => e = .returned (.tuple #[.int .i64 (bin s a).1, .int .i64 (bin s a).2]) ∧ w = w' := by
  cases hs : isSz s
  · rw [bin_no hs]
    have hm := fun ok => ck_no (ok := ok) hs
    go_enter Tryd.func54, Tryd.ntmps54
    go_wp2_with (first | (go_at_call 64; refine (right_any _ _ _ _).mono ?_; rintro e w' ⟨rfl, rfl⟩) | (go_at_call 17; refine (rIsWord_any _ _ _).mono ?_; rintro e w' ⟨rfl, rfl⟩))
    go_returns
    exact ⟨by simp, rfl⟩
  · have hm1 := ck_t hs
    have hm2 := ck_f hs
    have hz := isI_zero hs
    cases ha : isI s a <;> cases hb : isW s a
    all_goals
      rw [bin_y hs, ha, hb]
      go_enter Tryd.func54, Tryd.ntmps54
      go_wp2_with (first | (go_at_call 64; refine (right_any _ _ _ _).mono ?_; rintro e w' ⟨rfl, rfl⟩) | (go_at_call 17; refine (rIsWord_any _ _ _).mono ?_; rintro e w' ⟨rfl, rfl⟩))
      go_returns
      exact ⟨by simp, rfl⟩
theorem rAbsWord_any (s a : Int) (w : World) :
    Calls Tryd.prog 56 #[.int .i64 s, .int .i64 a] w fun e w' => e = .returned (.tuple #[.int .i64 (absW s a).1, .int .i64 (absW s a).2]) ∧ w = w' := by
  cases hs : isSz s
  · rw [absW_no hs]
    have hm := fun ok => ck_no (ok := ok) hs
    go_enter Tryd.func56, Tryd.ntmps56
    go_wp2_with (first | (go_at_call 73; refine (words_any _ _ _ _).mono ?_; rintro e w' ⟨rfl, rfl⟩) | (go_at_call 69; refine (within_any _ _ _).mono ?_; rintro e w' ⟨rfl, rfl⟩))
    go_returns
    exact ⟨by simp, rfl⟩
  · have hm1 := ck_t hs
    have hm2 := ck_f hs
    have hz := isW_zero hs
    cases ha : isW s a
    all_goals
      rw [absW_y hs, ha]
      go_enter Tryd.func56, Tryd.ntmps56
      go_wp2_with (first | (go_at_call 73; refine (words_any _ _ _ _).mono ?_; rintro e w' ⟨rfl, rfl⟩) | (go_at_call 69; refine (within_any _ _ _).mono ?_; rintro e w' ⟨rfl, rfl⟩))
      go_returns
      exact ⟨by simp, rfl⟩
theorem rLengWord_any (s a : Int) (w : World) :
    Calls Tryd.prog 58 #[.int .i64 s, .int .i64 a] w fun e w' => e = .returned (.tuple #[.int .i64 (lengW s a).1, .int .i64 (lengW s a).2]) ∧ w = w' := by
  by_cases h1 : s = 1
  · subst h1
    rw [lengW_x]
    go_enter Tryd.func58, Tryd.ntmps58
    go_wp2_with (first | (go_at_call 73; refine (words_any _ _ _ _).mono ?_; rintro e w' ⟨rfl, rfl⟩))
    go_returns
    exact ⟨by simp, rfl⟩
  · have h2 : (s == 1) = false := by simpa using h1
    cases hs : isSz s
    · rw [lengW_no h1 hs]
      have hm := fun ok => ck_no (ok := ok) hs
      go_enter Tryd.func58, Tryd.ntmps58
      go_wp2_with (first | (go_at_call 73; refine (words_any _ _ _ _).mono ?_; rintro e w' ⟨rfl, rfl⟩))
      go_returns
      exact ⟨by simp, rfl⟩
    · have hm1 := ck_t hs
      have hm2 := ck_f hs
      have hs1 := isSz_bd hs
      have hz := isW_zero hs
      cases ha : isW s a
      all_goals
        rw [lengW_y h1 hs, ha]
        go_enter Tryd.func58, Tryd.ntmps58
        go_wp2_with (first | (go_at_call 73; refine (words_any _ _ _ _).mono ?_; rintro e w' ⟨rfl, rfl⟩))
        go_returns
        exact ⟨by simp, rfl⟩
theorem rShortenWord_any (s a : Int) (w : World) :
    Calls Tryd.prog 60 #[.int .i64 s, .int .i64 a] w fun e w' => e = .returned (.tuple #[.int .i64 (shortW s a).1, .int .i64 (shortW s a).2]) ∧ w = w' := by
  by_cases h1 : s = -1
  · subst h1
    rw [shortW_x]
    go_enter Tryd.func60, Tryd.ntmps60
    go_wp2_with (first | (go_at_call 73; refine (words_any _ _ _ _).mono ?_; rintro e w' ⟨rfl, rfl⟩) | (go_at_call 17; refine (rIsWord_any _ _ _).mono ?_; rintro e w' ⟨rfl, rfl⟩))
    go_returns
    exact ⟨by simp, rfl⟩
  · have h2 : (s == -1) = false := by simpa using h1
    cases hs : isSz s
    · rw [shortW_no h1 hs]
      have hm := fun ok => ck_no (ok := ok) hs
      go_enter Tryd.func60, Tryd.ntmps60
      go_wp2_with (first | (go_at_call 73; refine (words_any _ _ _ _).mono ?_; rintro e w' ⟨rfl, rfl⟩) | (go_at_call 17; refine (rIsWord_any _ _ _).mono ?_; rintro e w' ⟨rfl, rfl⟩))
      go_returns
      exact ⟨by simp, rfl⟩
    · have hm1 := ck_t hs
      have hm2 := ck_f hs
      have hs1 := isSz_bd hs
      have hz := isW_zero hs
      cases ha : isW s a <;> cases hb : isW (s - 1) a
      all_goals
        rw [shortW_y h1 hs, ha, hb]
        go_enter Tryd.func60, Tryd.ntmps60
        go_wp2_with (first | (go_at_call 73; refine (words_any _ _ _ _).mono ?_; rintro e w' ⟨rfl, rfl⟩) | (go_at_call 17; refine (rIsWord_any _ _ _).mono ?_; rintro e w' ⟨rfl, rfl⟩))
        go_returns
        exact ⟨by simp, rfl⟩
end Go.Proofs.YtkehmdocjjadnaaDoor
