/- What the program's operations on words return, for every size and numbers. Condition: the table holds what its initialiser lays. -/
import Derived.Test.YtkehmdocjjadnaaDoorBitR
namespace Go.Proofs.YtkehmdocjjadnaaDoor
open Go.ChangeShapes Go.WideShapes Go.ChangeAt Go.RowKit

theorem Not_any (s a : Int) (w : World) (ht : Tab w) :
    Calls Tryd.prog 45 #[.int .i64 s, .int .i64 a] w fun e w' => e = .returned (.tuple #[.int .i64 (w1 s a (mw s - a)).1, .int .i64 (w1 s a (mw s - a)).2]) ∧ Kept w w' := by
  have hlt := ht.lt
  cases hs : isSz s
  · rw [w1_no hs]
    have hm := fun ok => ck_no (ok := ok) hs
    go_enter Tryd.func45, Tryd.ntmps45
    go_wp2_with (first | (go_at_call 72; refine (checkWords1A _ _ _ _ (by repeat (first | assumption | refine Tab.alloc ?_ _))).mono ?_; rintro e w4 ⟨rfl, hk4⟩; obtain ⟨hc4, hf4⟩ := bcell hk4.2; have ht4 := hk4.1; have hz4 := hk4.2.size; (try simp only [World.size_alloc] at hz4)))
    go_returns
    exact ⟨by simp, (by repeat (first | assumption | exact Kept.refl ht | refine Kept.alloc ?_ _ _ | refine Kept.trans ?_ (by assumption)))⟩
  · have hm1 := ck_t hs
    have hm2 := ck_f hs
    rcases isW_or s a with ⟨ha, la, ua⟩ | ha
    · rw [w1_y hs, ha]
      rcases sz3 hs with rfl | rfl | rfl
      · have hb : a ≤ 65535 := by have := of_decide_eq_true ha; simp [mw] at this; omega
        clear hs
        have hsz : isSz (-1) = true := rfl
        have hwd : wd (-1) = 16 := rfl
        have hmx : mx (-1) = 32767 := rfl
        have hmw : mw (-1) = 65535 := rfl
        go_enter Tryd.func45, Tryd.ntmps45
        go_wp2_with (first | (go_at_call 72; refine (checkWords1A _ _ _ _ (by repeat (first | assumption | refine Tab.alloc ?_ _))).mono ?_; rintro e w5 ⟨rfl, hk5⟩; obtain ⟨hc5, hf5⟩ := bcell hk5.2; have ht5 := hk5.1; have hz5 := hk5.2.size; (try simp only [World.size_alloc] at hz5)) | (go_at_call 61; refine (limits_any _ _ (by repeat (first | assumption | refine Tab.alloc ?_ _))).mono ?_; rintro e w2 ⟨rfl, hk2⟩; obtain ⟨hc2, hf2⟩ := bcell hk2.2; have ht2 := hk2.1; have hz2 := hk2.2.size; (try simp only [World.size_alloc] at hz2)) | (go_at_call 62; refine (mask16 _).mono ?_; rintro e w' ⟨rfl, rfl⟩))
        go_returns
        exact ⟨by simp [xor16 la hb], (by repeat (first | assumption | exact Kept.refl ht | refine Kept.alloc ?_ _ _ | refine Kept.trans ?_ (by assumption)))⟩
      · have hb : a ≤ 4294967295 := by have := of_decide_eq_true ha; simp [mw] at this; omega
        clear hs
        have hsz : isSz (0) = true := rfl
        have hwd : wd (0) = 32 := rfl
        have hmx : mx (0) = 2147483647 := rfl
        have hmw : mw (0) = 4294967295 := rfl
        go_enter Tryd.func45, Tryd.ntmps45
        go_wp2_with (first | (go_at_call 72; refine (checkWords1A _ _ _ _ (by repeat (first | assumption | refine Tab.alloc ?_ _))).mono ?_; rintro e w6 ⟨rfl, hk6⟩; obtain ⟨hc6, hf6⟩ := bcell hk6.2; have ht6 := hk6.1; have hz6 := hk6.2.size; (try simp only [World.size_alloc] at hz6)) | (go_at_call 61; refine (limits_any _ _ (by repeat (first | assumption | refine Tab.alloc ?_ _))).mono ?_; rintro e w2 ⟨rfl, hk2⟩; obtain ⟨hc2, hf2⟩ := bcell hk2.2; have ht2 := hk2.1; have hz2 := hk2.2.size; (try simp only [World.size_alloc] at hz2)) | (go_at_call 62; refine (mask32 _).mono ?_; rintro e w' ⟨rfl, rfl⟩))
        go_returns
        exact ⟨by simp [xor32 la hb], (by repeat (first | assumption | exact Kept.refl ht | refine Kept.alloc ?_ _ _ | refine Kept.trans ?_ (by assumption)))⟩
      · have hb : a ≤ 1152921504606846975 := by have := of_decide_eq_true ha; simp [mw] at this; omega
        clear hs
        have hsz : isSz (1) = true := rfl
        have hwd : wd (1) = 60 := rfl
        have hmx : mx (1) = 999999999999999999 := rfl
        have hmw : mw (1) = 1152921504606846975 := rfl
        go_enter Tryd.func45, Tryd.ntmps45
        go_wp2_with (first | (go_at_call 72; refine (checkWords1A _ _ _ _ (by repeat (first | assumption | refine Tab.alloc ?_ _))).mono ?_; rintro e w7 ⟨rfl, hk7⟩; obtain ⟨hc7, hf7⟩ := bcell hk7.2; have ht7 := hk7.1; have hz7 := hk7.2.size; (try simp only [World.size_alloc] at hz7)) | (go_at_call 61; refine (limits_any _ _ (by repeat (first | assumption | refine Tab.alloc ?_ _))).mono ?_; rintro e w2 ⟨rfl, hk2⟩; obtain ⟨hc2, hf2⟩ := bcell hk2.2; have ht2 := hk2.1; have hz2 := hk2.2.size; (try simp only [World.size_alloc] at hz2)) | (go_at_call 62; refine (mask60 _).mono ?_; rintro e w' ⟨rfl, rfl⟩))
        go_returns
        exact ⟨by simp [xor60 la hb], (by repeat (first | assumption | exact Kept.refl ht | refine Kept.alloc ?_ _ _ | refine Kept.trans ?_ (by assumption)))⟩
    · rw [w1_y hs, ha]
      go_enter Tryd.func45, Tryd.ntmps45
      go_wp2_with (first | (go_at_call 72; refine (checkWords1A _ _ _ _ (by repeat (first | assumption | refine Tab.alloc ?_ _))).mono ?_; rintro e w8 ⟨rfl, hk8⟩; obtain ⟨hc8, hf8⟩ := bcell hk8.2; have ht8 := hk8.1; have hz8 := hk8.2.size; (try simp only [World.size_alloc] at hz8)))
      go_returns
      exact ⟨by simp, (by repeat (first | assumption | exact Kept.refl ht | refine Kept.alloc ?_ _ _ | refine Kept.trans ?_ (by assumption)))⟩
theorem And_any (s a b : Int) (w : World) (ht : Tab w) :
    Calls Tryd.prog 47 #[.int .i64 s, .int .i64 a, .int .i64 b] w fun e w' => e = .returned (.tuple #[.int .i64 (w2 s a b (andV a b)).1, .int .i64 (w2 s a b (andV a b)).2]) ∧ Kept w w' := by
  have hlt := ht.lt
  cases hs : isSz s
  · rw [w2_no hs]
    have hm := fun ok => ck_no (ok := ok) hs
    go_enter Tryd.func47, Tryd.ntmps47
    go_wp2_with (first | (go_at_call 72; refine (checkWords2A _ _ _ _ _ (by repeat (first | assumption | refine Tab.alloc ?_ _))).mono ?_; rintro e w9 ⟨rfl, hk9⟩; obtain ⟨hc9, hf9⟩ := bcell hk9.2; have ht9 := hk9.1; have hz9 := hk9.2.size; (try simp only [World.size_alloc] at hz9)))
    go_returns
    exact ⟨by simp, (by repeat (first | assumption | exact Kept.refl ht | refine Kept.alloc ?_ _ _ | refine Kept.trans ?_ (by assumption)))⟩
  · have hm1 := ck_t hs
    have hm2 := ck_f hs
    rcases isW_or s a with ⟨ha, la, ua⟩ | ha <;> rcases isW_or s b with ⟨hb, lb, ub⟩ | hb
    · rw [w2_y hs, ha, hb]
      have hv := and_any la ua lb ub
      go_enter Tryd.func47, Tryd.ntmps47
      go_wp2_with (first | (go_at_call 72; refine (checkWords2A _ _ _ _ _ (by repeat (first | assumption | refine Tab.alloc ?_ _))).mono ?_; rintro e w10 ⟨rfl, hk10⟩; obtain ⟨hc10, hf10⟩ := bcell hk10.2; have ht10 := hk10.1; have hz10 := hk10.2.size; (try simp only [World.size_alloc] at hz10)))
      go_returns
      exact ⟨by simp, (by repeat (first | assumption | exact Kept.refl ht | refine Kept.alloc ?_ _ _ | refine Kept.trans ?_ (by assumption)))⟩
    all_goals
      rw [w2_y hs, ha, hb]
      go_enter Tryd.func47, Tryd.ntmps47
      go_wp2_with (first | (go_at_call 72; refine (checkWords2A _ _ _ _ _ (by repeat (first | assumption | refine Tab.alloc ?_ _))).mono ?_; rintro e w11 ⟨rfl, hk11⟩; obtain ⟨hc11, hf11⟩ := bcell hk11.2; have ht11 := hk11.1; have hz11 := hk11.2.size; (try simp only [World.size_alloc] at hz11)))
      go_returns
      exact ⟨by simp, (by repeat (first | assumption | exact Kept.refl ht | refine Kept.alloc ?_ _ _ | refine Kept.trans ?_ (by assumption)))⟩
theorem Or_any (s a b : Int) (w : World) (ht : Tab w) :
    Calls Tryd.prog 49 #[.int .i64 s, .int .i64 a, .int .i64 b] w fun e w' => e = .returned (.tuple #[.int .i64 (w2 s a b (orV a b)).1, .int .i64 (w2 s a b (orV a b)).2]) ∧ Kept w w' := by
  have hlt := ht.lt
  cases hs : isSz s
  · rw [w2_no hs]
    have hm := fun ok => ck_no (ok := ok) hs
    go_enter Tryd.func49, Tryd.ntmps49
    go_wp2_with (first | (go_at_call 72; refine (checkWords2A _ _ _ _ _ (by repeat (first | assumption | refine Tab.alloc ?_ _))).mono ?_; rintro e w12 ⟨rfl, hk12⟩; obtain ⟨hc12, hf12⟩ := bcell hk12.2; have ht12 := hk12.1; have hz12 := hk12.2.size; (try simp only [World.size_alloc] at hz12)))
    go_returns
    exact ⟨by simp, (by repeat (first | assumption | exact Kept.refl ht | refine Kept.alloc ?_ _ _ | refine Kept.trans ?_ (by assumption)))⟩
  · have hm1 := ck_t hs
    have hm2 := ck_f hs
    rcases isW_or s a with ⟨ha, la, ua⟩ | ha <;> rcases isW_or s b with ⟨hb, lb, ub⟩ | hb
    · rw [w2_y hs, ha, hb]
      have hv := or_any la ua lb ub
      go_enter Tryd.func49, Tryd.ntmps49
      go_wp2_with (first | (go_at_call 72; refine (checkWords2A _ _ _ _ _ (by repeat (first | assumption | refine Tab.alloc ?_ _))).mono ?_; rintro e w13 ⟨rfl, hk13⟩; obtain ⟨hc13, hf13⟩ := bcell hk13.2; have ht13 := hk13.1; have hz13 := hk13.2.size; (try simp only [World.size_alloc] at hz13)))
      go_returns
      exact ⟨by simp, (by repeat (first | assumption | exact Kept.refl ht | refine Kept.alloc ?_ _ _ | refine Kept.trans ?_ (by assumption)))⟩
    all_goals
      rw [w2_y hs, ha, hb]
      go_enter Tryd.func49, Tryd.ntmps49
      go_wp2_with (first | (go_at_call 72; refine (checkWords2A _ _ _ _ _ (by repeat (first | assumption | refine Tab.alloc ?_ _))).mono ?_; rintro e w14 ⟨rfl, hk14⟩; obtain ⟨hc14, hf14⟩ := bcell hk14.2; have ht14 := hk14.1; have hz14 := hk14.2.size; (try simp only [World.size_alloc] at hz14)))
      go_returns
      exact ⟨by simp, (by repeat (first | assumption | exact Kept.refl ht | refine Kept.alloc ?_ _ _ | refine Kept.trans ?_ (by assumption)))⟩
set_option maxHeartbeats 2000000 in
theorem Shift_any (s a n : Int) (w : World) (ht : Tab w) :
    Calls Tryd.prog 51 #[.int .i64 s, .int .i64 a, .int .i64 n] w fun e w' => e = .returned (.tuple #[.int .i64 (w1 s a (shV s a n)).1, .int .i64 (w1 s a (shV s a n)).2]) ∧ Kept w w' := by
  have hlt := ht.lt
  cases hs : isSz s
  · rw [w1_no hs]
    have hm := fun ok => ck_no (ok := ok) hs
    go_enter Tryd.func51, Tryd.ntmps51
    go_wp2_with (first | (go_at_call 72; refine (checkWords1A _ _ _ _ (by repeat (first | assumption | refine Tab.alloc ?_ _))).mono ?_; rintro e w15 ⟨rfl, hk15⟩; obtain ⟨hc15, hf15⟩ := bcell hk15.2; have ht15 := hk15.1; have hz15 := hk15.2.size; (try simp only [World.size_alloc] at hz15)))
    go_returns
    exact ⟨by simp, (by repeat (first | assumption | exact Kept.refl ht | refine Kept.alloc ?_ _ _ | refine Kept.trans ?_ (by assumption)))⟩
  · have hm1 := ck_t hs
    have hm2 := ck_f hs
    rcases isW_or s a with ⟨ha, la, ua⟩ | ha
    · rw [w1_y hs, ha]
      rcases sz3 hs with rfl | rfl | rfl
      · have ub : a ≤ 65535 := by have := of_decide_eq_true ha; simp [mw] at this; omega
        clear hs ua
        have hsz : isSz (-1) = true := rfl
        have hwd : wd (-1) = 16 := rfl
        have hmx : mx (-1) = 32767 := rfl
        have hmw : mw (-1) = 65535 := rfl
        rcases (by omega : 16 ≤ n ∨ n ≤ -16 ∨ (-16 < n ∧ n < 0) ∨ (0 ≤ n ∧ n < 16)) with h | h | ⟨h, h'⟩ | ⟨h, h'⟩
        · rw [shV_big hwd (Or.inl h)]
          go_enter Tryd.func51, Tryd.ntmps51
          go_wp2_with (first | (go_at_call 72; refine (checkWords1A _ _ _ _ (by repeat (first | assumption | refine Tab.alloc ?_ _))).mono ?_; rintro e w16 ⟨rfl, hk16⟩; obtain ⟨hc16, hf16⟩ := bcell hk16.2; have ht16 := hk16.1; have hz16 := hk16.2.size; (try simp only [World.size_alloc] at hz16)) | (go_at_call 61; refine (limits_any _ _ (by repeat (first | assumption | refine Tab.alloc ?_ _))).mono ?_; rintro e w2 ⟨rfl, hk2⟩; obtain ⟨hc2, hf2⟩ := bcell hk2.2; have ht2 := hk2.1; have hz2 := hk2.2.size; (try simp only [World.size_alloc] at hz2)))
          go_returns
          exact ⟨by simp, (by repeat (first | assumption | exact Kept.refl ht | refine Kept.alloc ?_ _ _ | refine Kept.trans ?_ (by assumption)))⟩
        · rw [shV_big hwd (Or.inr h)]
          have h2 : ¬ 16 ≤ n := by omega
          go_enter Tryd.func51, Tryd.ntmps51
          go_wp2_with (first | (go_at_call 72; refine (checkWords1A _ _ _ _ (by repeat (first | assumption | refine Tab.alloc ?_ _))).mono ?_; rintro e w17 ⟨rfl, hk17⟩; obtain ⟨hc17, hf17⟩ := bcell hk17.2; have ht17 := hk17.1; have hz17 := hk17.2.size; (try simp only [World.size_alloc] at hz17)) | (go_at_call 61; refine (limits_any _ _ (by repeat (first | assumption | refine Tab.alloc ?_ _))).mono ?_; rintro e w2 ⟨rfl, hk2⟩; obtain ⟨hc2, hf2⟩ := bcell hk2.2; have ht2 := hk2.1; have hz2 := hk2.2.size; (try simp only [World.size_alloc] at hz2)))
          go_returns
          exact ⟨by simp, (by repeat (first | assumption | exact Kept.refl ht | refine Kept.alloc ?_ _ _ | refine Kept.trans ?_ (by assumption)))⟩
        · rw [shV_r hwd la h h']
          have h2 : ¬ 16 ≤ n := by omega
          have h3 : ¬ n ≤ -16 := by omega
          go_enter Tryd.func51, Tryd.ntmps51
          go_wp2_with (first | (go_at_call 72; refine (checkWords1A _ _ _ _ (by repeat (first | assumption | refine Tab.alloc ?_ _))).mono ?_; rintro e w18 ⟨rfl, hk18⟩; obtain ⟨hc18, hf18⟩ := bcell hk18.2; have ht18 := hk18.1; have hz18 := hk18.2.size; (try simp only [World.size_alloc] at hz18)) | (go_at_call 61; refine (limits_any _ _ (by repeat (first | assumption | refine Tab.alloc ?_ _))).mono ?_; rintro e w2 ⟨rfl, hk2⟩; obtain ⟨hc2, hf2⟩ := bcell hk2.2; have ht2 := hk2.1; have hz2 := hk2.2.size; (try simp only [World.size_alloc] at hz2)))
          go_returns
          exact ⟨by simp, (by repeat (first | assumption | exact Kept.refl ht | refine Kept.alloc ?_ _ _ | refine Kept.trans ?_ (by assumption)))⟩
        · rw [shV_l hwd la h' (by omega)]
          have h2 : ¬ 16 ≤ n := by omega
          have h3 : ¬ n ≤ -16 := by omega
          have h4 : ¬ n < 0 := by omega
          go_enter Tryd.func51, Tryd.ntmps51
          go_wp2_with (first | (go_at_call 72; refine (checkWords1A _ _ _ _ (by repeat (first | assumption | refine Tab.alloc ?_ _))).mono ?_; rintro e w19 ⟨rfl, hk19⟩; obtain ⟨hc19, hf19⟩ := bcell hk19.2; have ht19 := hk19.1; have hz19 := hk19.2.size; (try simp only [World.size_alloc] at hz19)) | (go_at_call 61; refine (limits_any _ _ (by repeat (first | assumption | refine Tab.alloc ?_ _))).mono ?_; rintro e w2 ⟨rfl, hk2⟩; obtain ⟨hc2, hf2⟩ := bcell hk2.2; have ht2 := hk2.1; have hz2 := hk2.2.size; (try simp only [World.size_alloc] at hz2)))
          go_quiet ((go_at_call 62; exact mask16q _ _))
          go_wp2
          go_returns
          exact ⟨by simp [and16], (by repeat (first | assumption | refine Kept.drewN ?_ _ | exact Kept.refl ht | refine Kept.alloc ?_ _ _ | refine Kept.trans ?_ (by assumption)))⟩
      · have ub : a ≤ 4294967295 := by have := of_decide_eq_true ha; simp [mw] at this; omega
        clear hs ua
        have hsz : isSz (0) = true := rfl
        have hwd : wd (0) = 32 := rfl
        have hmx : mx (0) = 2147483647 := rfl
        have hmw : mw (0) = 4294967295 := rfl
        rcases (by omega : 32 ≤ n ∨ n ≤ -32 ∨ (-32 < n ∧ n < 0) ∨ (0 ≤ n ∧ n < 32)) with h | h | ⟨h, h'⟩ | ⟨h, h'⟩
        · rw [shV_big hwd (Or.inl h)]
          go_enter Tryd.func51, Tryd.ntmps51
          go_wp2_with (first | (go_at_call 72; refine (checkWords1A _ _ _ _ (by repeat (first | assumption | refine Tab.alloc ?_ _))).mono ?_; rintro e w20 ⟨rfl, hk20⟩; obtain ⟨hc20, hf20⟩ := bcell hk20.2; have ht20 := hk20.1; have hz20 := hk20.2.size; (try simp only [World.size_alloc] at hz20)) | (go_at_call 61; refine (limits_any _ _ (by repeat (first | assumption | refine Tab.alloc ?_ _))).mono ?_; rintro e w2 ⟨rfl, hk2⟩; obtain ⟨hc2, hf2⟩ := bcell hk2.2; have ht2 := hk2.1; have hz2 := hk2.2.size; (try simp only [World.size_alloc] at hz2)))
          go_returns
          exact ⟨by simp, (by repeat (first | assumption | exact Kept.refl ht | refine Kept.alloc ?_ _ _ | refine Kept.trans ?_ (by assumption)))⟩
        · rw [shV_big hwd (Or.inr h)]
          have h2 : ¬ 32 ≤ n := by omega
          go_enter Tryd.func51, Tryd.ntmps51
          go_wp2_with (first | (go_at_call 72; refine (checkWords1A _ _ _ _ (by repeat (first | assumption | refine Tab.alloc ?_ _))).mono ?_; rintro e w21 ⟨rfl, hk21⟩; obtain ⟨hc21, hf21⟩ := bcell hk21.2; have ht21 := hk21.1; have hz21 := hk21.2.size; (try simp only [World.size_alloc] at hz21)) | (go_at_call 61; refine (limits_any _ _ (by repeat (first | assumption | refine Tab.alloc ?_ _))).mono ?_; rintro e w2 ⟨rfl, hk2⟩; obtain ⟨hc2, hf2⟩ := bcell hk2.2; have ht2 := hk2.1; have hz2 := hk2.2.size; (try simp only [World.size_alloc] at hz2)))
          go_returns
          exact ⟨by simp, (by repeat (first | assumption | exact Kept.refl ht | refine Kept.alloc ?_ _ _ | refine Kept.trans ?_ (by assumption)))⟩
        · rw [shV_r hwd la h h']
          have h2 : ¬ 32 ≤ n := by omega
          have h3 : ¬ n ≤ -32 := by omega
          go_enter Tryd.func51, Tryd.ntmps51
          go_wp2_with (first | (go_at_call 72; refine (checkWords1A _ _ _ _ (by repeat (first | assumption | refine Tab.alloc ?_ _))).mono ?_; rintro e w22 ⟨rfl, hk22⟩; obtain ⟨hc22, hf22⟩ := bcell hk22.2; have ht22 := hk22.1; have hz22 := hk22.2.size; (try simp only [World.size_alloc] at hz22)) | (go_at_call 61; refine (limits_any _ _ (by repeat (first | assumption | refine Tab.alloc ?_ _))).mono ?_; rintro e w2 ⟨rfl, hk2⟩; obtain ⟨hc2, hf2⟩ := bcell hk2.2; have ht2 := hk2.1; have hz2 := hk2.2.size; (try simp only [World.size_alloc] at hz2)))
          go_returns
          exact ⟨by simp, (by repeat (first | assumption | exact Kept.refl ht | refine Kept.alloc ?_ _ _ | refine Kept.trans ?_ (by assumption)))⟩
        · rw [shV_l hwd la h' (by omega)]
          have h2 : ¬ 32 ≤ n := by omega
          have h3 : ¬ n ≤ -32 := by omega
          have h4 : ¬ n < 0 := by omega
          go_enter Tryd.func51, Tryd.ntmps51
          go_wp2_with (first | (go_at_call 72; refine (checkWords1A _ _ _ _ (by repeat (first | assumption | refine Tab.alloc ?_ _))).mono ?_; rintro e w23 ⟨rfl, hk23⟩; obtain ⟨hc23, hf23⟩ := bcell hk23.2; have ht23 := hk23.1; have hz23 := hk23.2.size; (try simp only [World.size_alloc] at hz23)) | (go_at_call 61; refine (limits_any _ _ (by repeat (first | assumption | refine Tab.alloc ?_ _))).mono ?_; rintro e w2 ⟨rfl, hk2⟩; obtain ⟨hc2, hf2⟩ := bcell hk2.2; have ht2 := hk2.1; have hz2 := hk2.2.size; (try simp only [World.size_alloc] at hz2)))
          go_quiet ((go_at_call 62; exact mask32q _ _))
          go_wp2
          go_returns
          exact ⟨by simp [and32], (by repeat (first | assumption | refine Kept.drewN ?_ _ | exact Kept.refl ht | refine Kept.alloc ?_ _ _ | refine Kept.trans ?_ (by assumption)))⟩
      · have ub : a ≤ 1152921504606846975 := by have := of_decide_eq_true ha; simp [mw] at this; omega
        clear hs ua
        have hsz : isSz (1) = true := rfl
        have hwd : wd (1) = 60 := rfl
        have hmx : mx (1) = 999999999999999999 := rfl
        have hmw : mw (1) = 1152921504606846975 := rfl
        rcases (by omega : 60 ≤ n ∨ n ≤ -60 ∨ (-60 < n ∧ n < 0) ∨ (0 ≤ n ∧ n < 60)) with h | h | ⟨h, h'⟩ | ⟨h, h'⟩
        · rw [shV_big hwd (Or.inl h)]
          go_enter Tryd.func51, Tryd.ntmps51
          go_wp2_with (first | (go_at_call 72; refine (checkWords1A _ _ _ _ (by repeat (first | assumption | refine Tab.alloc ?_ _))).mono ?_; rintro e w24 ⟨rfl, hk24⟩; obtain ⟨hc24, hf24⟩ := bcell hk24.2; have ht24 := hk24.1; have hz24 := hk24.2.size; (try simp only [World.size_alloc] at hz24)) | (go_at_call 61; refine (limits_any _ _ (by repeat (first | assumption | refine Tab.alloc ?_ _))).mono ?_; rintro e w2 ⟨rfl, hk2⟩; obtain ⟨hc2, hf2⟩ := bcell hk2.2; have ht2 := hk2.1; have hz2 := hk2.2.size; (try simp only [World.size_alloc] at hz2)))
          go_returns
          exact ⟨by simp, (by repeat (first | assumption | exact Kept.refl ht | refine Kept.alloc ?_ _ _ | refine Kept.trans ?_ (by assumption)))⟩
        · rw [shV_big hwd (Or.inr h)]
          have h2 : ¬ 60 ≤ n := by omega
          go_enter Tryd.func51, Tryd.ntmps51
          go_wp2_with (first | (go_at_call 72; refine (checkWords1A _ _ _ _ (by repeat (first | assumption | refine Tab.alloc ?_ _))).mono ?_; rintro e w25 ⟨rfl, hk25⟩; obtain ⟨hc25, hf25⟩ := bcell hk25.2; have ht25 := hk25.1; have hz25 := hk25.2.size; (try simp only [World.size_alloc] at hz25)) | (go_at_call 61; refine (limits_any _ _ (by repeat (first | assumption | refine Tab.alloc ?_ _))).mono ?_; rintro e w2 ⟨rfl, hk2⟩; obtain ⟨hc2, hf2⟩ := bcell hk2.2; have ht2 := hk2.1; have hz2 := hk2.2.size; (try simp only [World.size_alloc] at hz2)))
          go_returns
          exact ⟨by simp, (by repeat (first | assumption | exact Kept.refl ht | refine Kept.alloc ?_ _ _ | refine Kept.trans ?_ (by assumption)))⟩
        · rw [shV_r hwd la h h']
          have h2 : ¬ 60 ≤ n := by omega
          have h3 : ¬ n ≤ -60 := by omega
          go_enter Tryd.func51, Tryd.ntmps51
          go_wp2_with (first | (go_at_call 72; refine (checkWords1A _ _ _ _ (by repeat (first | assumption | refine Tab.alloc ?_ _))).mono ?_; rintro e w26 ⟨rfl, hk26⟩; obtain ⟨hc26, hf26⟩ := bcell hk26.2; have ht26 := hk26.1; have hz26 := hk26.2.size; (try simp only [World.size_alloc] at hz26)) | (go_at_call 61; refine (limits_any _ _ (by repeat (first | assumption | refine Tab.alloc ?_ _))).mono ?_; rintro e w2 ⟨rfl, hk2⟩; obtain ⟨hc2, hf2⟩ := bcell hk2.2; have ht2 := hk2.1; have hz2 := hk2.2.size; (try simp only [World.size_alloc] at hz2)))
          go_returns
          exact ⟨by simp, (by repeat (first | assumption | exact Kept.refl ht | refine Kept.alloc ?_ _ _ | refine Kept.trans ?_ (by assumption)))⟩
        · rw [shV_l hwd la h' (by omega)]
          have h2 : ¬ 60 ≤ n := by omega
          have h3 : ¬ n ≤ -60 := by omega
          have h4 : ¬ n < 0 := by omega
          go_enter Tryd.func51, Tryd.ntmps51
          go_wp2_with (first | (go_at_call 72; refine (checkWords1A _ _ _ _ (by repeat (first | assumption | refine Tab.alloc ?_ _))).mono ?_; rintro e w27 ⟨rfl, hk27⟩; obtain ⟨hc27, hf27⟩ := bcell hk27.2; have ht27 := hk27.1; have hz27 := hk27.2.size; (try simp only [World.size_alloc] at hz27)) | (go_at_call 61; refine (limits_any _ _ (by repeat (first | assumption | refine Tab.alloc ?_ _))).mono ?_; rintro e w2 ⟨rfl, hk2⟩; obtain ⟨hc2, hf2⟩ := bcell hk2.2; have ht2 := hk2.1; have hz2 := hk2.2.size; (try simp only [World.size_alloc] at hz2)))
          go_quiet ((go_at_call 62; exact mask60q _ _))
          go_wp2
          go_returns
          exact ⟨by simp [and60], (by repeat (first | assumption | refine Kept.drewN ?_ _ | exact Kept.refl ht | refine Kept.alloc ?_ _ _ | refine Kept.trans ?_ (by assumption)))⟩
    · rw [w1_y hs, ha]
      go_enter Tryd.func51, Tryd.ntmps51
      go_wp2_with (first | (go_at_call 72; refine (checkWords1A _ _ _ _ (by repeat (first | assumption | refine Tab.alloc ?_ _))).mono ?_; rintro e w28 ⟨rfl, hk28⟩; obtain ⟨hc28, hf28⟩ := bcell hk28.2; have ht28 := hk28.1; have hz28 := hk28.2.size; (try simp only [World.size_alloc] at hz28)))
      go_returns
      exact ⟨by simp, (by repeat (first | assumption | exact Kept.refl ht | refine Kept.alloc ?_ _ _ | refine Kept.trans ?_ (by assumption)))⟩
set_option maxHeartbeats 1000000 in
theorem Elem_any (s i a : Int) (w : World) (ht : Tab w) :
    Calls Tryd.prog 43 #[.int .i64 s, .int .i64 i, .int .i64 a] w fun e w' => e = .returned (.tuple #[.bool (el s i a).1, .int .i64 (el s i a).2]) ∧ Kept w w' := by
  have hlt := ht.lt
  cases hs : isSz s
  · rw [el_no hs]
    have hm := fun ok => ck_no (ok := ok) hs
    go_enter Tryd.func43, Tryd.ntmps43
    go_wp2_with (first | (go_at_call 72; refine (checkWords1A _ _ _ _ (by repeat (first | assumption | refine Tab.alloc ?_ _))).mono ?_; rintro e w29 ⟨rfl, hk29⟩; obtain ⟨hc29, hf29⟩ := bcell hk29.2; have ht29 := hk29.1; have hz29 := hk29.2.size; (try simp only [World.size_alloc] at hz29)))
    go_returns
    exact ⟨by simp, (by repeat (first | assumption | exact Kept.refl ht | refine Kept.alloc ?_ _ _ | refine Kept.trans ?_ (by assumption)))⟩
  · have hm1 := ck_t hs
    have hm2 := ck_f hs
    rcases isW_or s a with ⟨ha, la, ua⟩ | ha
    · rcases sz3 hs with rfl | rfl | rfl
      · skip
        have hsz : isSz (-1) = true := rfl
        have hwd : wd (-1) = 16 := rfl
        have hmx : mx (-1) = 32767 := rfl
        have hmw : mw (-1) = 65535 := rfl
        by_cases h1 : i < 1
        · rw [el_out hs ha (Or.inl h1)]
          go_enter Tryd.func43, Tryd.ntmps43
          go_wp2_with (first | (go_at_call 72; refine (checkWords1A _ _ _ _ (by repeat (first | assumption | refine Tab.alloc ?_ _))).mono ?_; rintro e w30 ⟨rfl, hk30⟩; obtain ⟨hc30, hf30⟩ := bcell hk30.2; have ht30 := hk30.1; have hz30 := hk30.2.size; (try simp only [World.size_alloc] at hz30)) | (go_at_call 61; refine (limits_any _ _ (by repeat (first | assumption | refine Tab.alloc ?_ _))).mono ?_; rintro e w2 ⟨rfl, hk2⟩; obtain ⟨hc2, hf2⟩ := bcell hk2.2; have ht2 := hk2.1; have hz2 := hk2.2.size; (try simp only [World.size_alloc] at hz2)))
          go_returns
          exact ⟨by simp, (by repeat (first | assumption | exact Kept.refl ht | refine Kept.alloc ?_ _ _ | refine Kept.trans ?_ (by assumption)))⟩
        · by_cases h2 : 16 < i
          · rw [el_out hs ha (Or.inr (by rw [hwd]; exact h2))]
            go_enter Tryd.func43, Tryd.ntmps43
            go_wp2_with (first | (go_at_call 72; refine (checkWords1A _ _ _ _ (by repeat (first | assumption | refine Tab.alloc ?_ _))).mono ?_; rintro e w31 ⟨rfl, hk31⟩; obtain ⟨hc31, hf31⟩ := bcell hk31.2; have ht31 := hk31.1; have hz31 := hk31.2.size; (try simp only [World.size_alloc] at hz31)) | (go_at_call 61; refine (limits_any _ _ (by repeat (first | assumption | refine Tab.alloc ?_ _))).mono ?_; rintro e w2 ⟨rfl, hk2⟩; obtain ⟨hc2, hf2⟩ := bcell hk2.2; have ht2 := hk2.1; have hz2 := hk2.2.size; (try simp only [World.size_alloc] at hz2)))
            go_returns
            exact ⟨by simp, (by repeat (first | assumption | exact Kept.refl ht | refine Kept.alloc ?_ _ _ | refine Kept.trans ?_ (by assumption)))⟩
          · rw [el_in hs ha (by omega), hwd, bt_in h1 h2]
            go_enter Tryd.func43, Tryd.ntmps43
            go_wp2_with (first | (go_at_call 72; refine (checkWords1A _ _ _ _ (by repeat (first | assumption | refine Tab.alloc ?_ _))).mono ?_; rintro e w32 ⟨rfl, hk32⟩; obtain ⟨hc32, hf32⟩ := bcell hk32.2; have ht32 := hk32.1; have hz32 := hk32.2.size; (try simp only [World.size_alloc] at hz32)) | (go_at_call 61; refine (limits_any _ _ (by repeat (first | assumption | refine Tab.alloc ?_ _))).mono ?_; rintro e w2 ⟨rfl, hk2⟩; obtain ⟨hc2, hf2⟩ := bcell hk2.2; have ht2 := hk2.1; have hz2 := hk2.2.size; (try simp only [World.size_alloc] at hz2)))
            go_returns
            exact ⟨by simp [and1], (by repeat (first | assumption | exact Kept.refl ht | refine Kept.alloc ?_ _ _ | refine Kept.trans ?_ (by assumption)))⟩
      · skip
        have hsz : isSz (0) = true := rfl
        have hwd : wd (0) = 32 := rfl
        have hmx : mx (0) = 2147483647 := rfl
        have hmw : mw (0) = 4294967295 := rfl
        by_cases h1 : i < 1
        · rw [el_out hs ha (Or.inl h1)]
          go_enter Tryd.func43, Tryd.ntmps43
          go_wp2_with (first | (go_at_call 72; refine (checkWords1A _ _ _ _ (by repeat (first | assumption | refine Tab.alloc ?_ _))).mono ?_; rintro e w33 ⟨rfl, hk33⟩; obtain ⟨hc33, hf33⟩ := bcell hk33.2; have ht33 := hk33.1; have hz33 := hk33.2.size; (try simp only [World.size_alloc] at hz33)) | (go_at_call 61; refine (limits_any _ _ (by repeat (first | assumption | refine Tab.alloc ?_ _))).mono ?_; rintro e w2 ⟨rfl, hk2⟩; obtain ⟨hc2, hf2⟩ := bcell hk2.2; have ht2 := hk2.1; have hz2 := hk2.2.size; (try simp only [World.size_alloc] at hz2)))
          go_returns
          exact ⟨by simp, (by repeat (first | assumption | exact Kept.refl ht | refine Kept.alloc ?_ _ _ | refine Kept.trans ?_ (by assumption)))⟩
        · by_cases h2 : 32 < i
          · rw [el_out hs ha (Or.inr (by rw [hwd]; exact h2))]
            go_enter Tryd.func43, Tryd.ntmps43
            go_wp2_with (first | (go_at_call 72; refine (checkWords1A _ _ _ _ (by repeat (first | assumption | refine Tab.alloc ?_ _))).mono ?_; rintro e w34 ⟨rfl, hk34⟩; obtain ⟨hc34, hf34⟩ := bcell hk34.2; have ht34 := hk34.1; have hz34 := hk34.2.size; (try simp only [World.size_alloc] at hz34)) | (go_at_call 61; refine (limits_any _ _ (by repeat (first | assumption | refine Tab.alloc ?_ _))).mono ?_; rintro e w2 ⟨rfl, hk2⟩; obtain ⟨hc2, hf2⟩ := bcell hk2.2; have ht2 := hk2.1; have hz2 := hk2.2.size; (try simp only [World.size_alloc] at hz2)))
            go_returns
            exact ⟨by simp, (by repeat (first | assumption | exact Kept.refl ht | refine Kept.alloc ?_ _ _ | refine Kept.trans ?_ (by assumption)))⟩
          · rw [el_in hs ha (by omega), hwd, bt_in h1 h2]
            go_enter Tryd.func43, Tryd.ntmps43
            go_wp2_with (first | (go_at_call 72; refine (checkWords1A _ _ _ _ (by repeat (first | assumption | refine Tab.alloc ?_ _))).mono ?_; rintro e w35 ⟨rfl, hk35⟩; obtain ⟨hc35, hf35⟩ := bcell hk35.2; have ht35 := hk35.1; have hz35 := hk35.2.size; (try simp only [World.size_alloc] at hz35)) | (go_at_call 61; refine (limits_any _ _ (by repeat (first | assumption | refine Tab.alloc ?_ _))).mono ?_; rintro e w2 ⟨rfl, hk2⟩; obtain ⟨hc2, hf2⟩ := bcell hk2.2; have ht2 := hk2.1; have hz2 := hk2.2.size; (try simp only [World.size_alloc] at hz2)))
            go_returns
            exact ⟨by simp [and1], (by repeat (first | assumption | exact Kept.refl ht | refine Kept.alloc ?_ _ _ | refine Kept.trans ?_ (by assumption)))⟩
      · skip
        have hsz : isSz (1) = true := rfl
        have hwd : wd (1) = 60 := rfl
        have hmx : mx (1) = 999999999999999999 := rfl
        have hmw : mw (1) = 1152921504606846975 := rfl
        by_cases h1 : i < 1
        · rw [el_out hs ha (Or.inl h1)]
          go_enter Tryd.func43, Tryd.ntmps43
          go_wp2_with (first | (go_at_call 72; refine (checkWords1A _ _ _ _ (by repeat (first | assumption | refine Tab.alloc ?_ _))).mono ?_; rintro e w36 ⟨rfl, hk36⟩; obtain ⟨hc36, hf36⟩ := bcell hk36.2; have ht36 := hk36.1; have hz36 := hk36.2.size; (try simp only [World.size_alloc] at hz36)) | (go_at_call 61; refine (limits_any _ _ (by repeat (first | assumption | refine Tab.alloc ?_ _))).mono ?_; rintro e w2 ⟨rfl, hk2⟩; obtain ⟨hc2, hf2⟩ := bcell hk2.2; have ht2 := hk2.1; have hz2 := hk2.2.size; (try simp only [World.size_alloc] at hz2)))
          go_returns
          exact ⟨by simp, (by repeat (first | assumption | exact Kept.refl ht | refine Kept.alloc ?_ _ _ | refine Kept.trans ?_ (by assumption)))⟩
        · by_cases h2 : 60 < i
          · rw [el_out hs ha (Or.inr (by rw [hwd]; exact h2))]
            go_enter Tryd.func43, Tryd.ntmps43
            go_wp2_with (first | (go_at_call 72; refine (checkWords1A _ _ _ _ (by repeat (first | assumption | refine Tab.alloc ?_ _))).mono ?_; rintro e w37 ⟨rfl, hk37⟩; obtain ⟨hc37, hf37⟩ := bcell hk37.2; have ht37 := hk37.1; have hz37 := hk37.2.size; (try simp only [World.size_alloc] at hz37)) | (go_at_call 61; refine (limits_any _ _ (by repeat (first | assumption | refine Tab.alloc ?_ _))).mono ?_; rintro e w2 ⟨rfl, hk2⟩; obtain ⟨hc2, hf2⟩ := bcell hk2.2; have ht2 := hk2.1; have hz2 := hk2.2.size; (try simp only [World.size_alloc] at hz2)))
            go_returns
            exact ⟨by simp, (by repeat (first | assumption | exact Kept.refl ht | refine Kept.alloc ?_ _ _ | refine Kept.trans ?_ (by assumption)))⟩
          · rw [el_in hs ha (by omega), hwd, bt_in h1 h2]
            go_enter Tryd.func43, Tryd.ntmps43
            go_wp2_with (first | (go_at_call 72; refine (checkWords1A _ _ _ _ (by repeat (first | assumption | refine Tab.alloc ?_ _))).mono ?_; rintro e w38 ⟨rfl, hk38⟩; obtain ⟨hc38, hf38⟩ := bcell hk38.2; have ht38 := hk38.1; have hz38 := hk38.2.size; (try simp only [World.size_alloc] at hz38)) | (go_at_call 61; refine (limits_any _ _ (by repeat (first | assumption | refine Tab.alloc ?_ _))).mono ?_; rintro e w2 ⟨rfl, hk2⟩; obtain ⟨hc2, hf2⟩ := bcell hk2.2; have ht2 := hk2.1; have hz2 := hk2.2.size; (try simp only [World.size_alloc] at hz2)))
            go_returns
            exact ⟨by simp [and1], (by repeat (first | assumption | exact Kept.refl ht | refine Kept.alloc ?_ _ _ | refine Kept.trans ?_ (by assumption)))⟩
    · rw [el_bad hs ha]
      go_enter Tryd.func43, Tryd.ntmps43
      go_wp2_with (first | (go_at_call 72; refine (checkWords1A _ _ _ _ (by repeat (first | assumption | refine Tab.alloc ?_ _))).mono ?_; rintro e w39 ⟨rfl, hk39⟩; obtain ⟨hc39, hf39⟩ := bcell hk39.2; have ht39 := hk39.1; have hz39 := hk39.2.size; (try simp only [World.size_alloc] at hz39)))
      go_returns
      exact ⟨by simp, (by repeat (first | assumption | exact Kept.refl ht | refine Kept.alloc ?_ _ _ | refine Kept.trans ?_ (by assumption)))⟩
theorem Bin_any (s a : Int) (w : World) (ht : Tab w) :
    Calls Tryd.prog 53 #[.int .i64 s, .int .i64 a] w fun e w' => e = .returned (.tuple #[.int .i64 (bin s a).1, .int .i64 (bin s a).2]) ∧ Kept w w' := by
  have hlt := ht.lt
  cases hs : isSz s
  · rw [bin_no hs]
    have hm := fun ok => ck_no (ok := ok) hs
    go_enter Tryd.func53, Tryd.ntmps53
    go_wp2_with (first | (go_at_call 63; refine (checkInts1A _ _ _ _ (by repeat (first | assumption | refine Tab.alloc ?_ _))).mono ?_; rintro e w40 ⟨rfl, hk40⟩; obtain ⟨hc40, hf40⟩ := bcell hk40.2; have ht40 := hk40.1; have hz40 := hk40.2.size; (try simp only [World.size_alloc] at hz40)) | (go_at_call 16; refine (IsWord_any _ _ _ (by repeat (first | assumption | refine Tab.alloc ?_ _))).mono ?_; rintro e w3 ⟨rfl, hk3⟩; obtain ⟨hc3, hf3⟩ := bcell hk3.2; have ht3 := hk3.1; have hz3 := hk3.2.size; (try simp only [World.size_alloc] at hz3)))
    go_returns
    exact ⟨by simp, (by repeat (first | assumption | exact Kept.refl ht | refine Kept.alloc ?_ _ _ | refine Kept.trans ?_ (by assumption)))⟩
  · have hm1 := ck_t hs
    have hm2 := ck_f hs
    cases ha : isI s a <;> cases hb : isW s a
    all_goals
      rw [bin_y hs, ha, hb]
      go_enter Tryd.func53, Tryd.ntmps53
      go_wp2_with (first | (go_at_call 63; refine (checkInts1A _ _ _ _ (by repeat (first | assumption | refine Tab.alloc ?_ _))).mono ?_; rintro e w40 ⟨rfl, hk40⟩; obtain ⟨hc40, hf40⟩ := bcell hk40.2; have ht40 := hk40.1; have hz40 := hk40.2.size; (try simp only [World.size_alloc] at hz40)) | (go_at_call 16; refine (IsWord_any _ _ _ (by repeat (first | assumption | refine Tab.alloc ?_ _))).mono ?_; rintro e w3 ⟨rfl, hk3⟩; obtain ⟨hc3, hf3⟩ := bcell hk3.2; have ht3 := hk3.1; have hz3 := hk3.2.size; (try simp only [World.size_alloc] at hz3)))
      go_returns
      exact ⟨by simp, (by repeat (first | assumption | exact Kept.refl ht | refine Kept.alloc ?_ _ _ | refine Kept.trans ?_ (by assumption)))⟩
theorem AbsWord_any (s a : Int) (w : World) (ht : Tab w) :
    Calls Tryd.prog 55 #[.int .i64 s, .int .i64 a] w fun e w' => e = .returned (.tuple #[.int .i64 (absW s a).1, .int .i64 (absW s a).2]) ∧ Kept w w' := by
  have hlt := ht.lt
  cases hs : isSz s
  · rw [absW_no hs]
    have hm := fun ok => ck_no (ok := ok) hs
    go_enter Tryd.func55, Tryd.ntmps55
    go_wp2_with (first | (go_at_call 72; refine (checkWords1A _ _ _ _ (by repeat (first | assumption | refine Tab.alloc ?_ _))).mono ?_; rintro e w41 ⟨rfl, hk41⟩; obtain ⟨hc41, hf41⟩ := bcell hk41.2; have ht41 := hk41.1; have hz41 := hk41.2.size; (try simp only [World.size_alloc] at hz41)) | (go_at_call 68; refine (integer_any _ _ _ (by repeat (first | assumption | refine Tab.alloc ?_ _))).mono ?_; rintro e w42 ⟨rfl, hk42⟩; obtain ⟨hc42, hf42⟩ := bcell hk42.2; have ht42 := hk42.1; have hz42 := hk42.2.size; (try simp only [World.size_alloc] at hz42)))
    go_returns
    exact ⟨by simp, (by repeat (first | assumption | exact Kept.refl ht | refine Kept.alloc ?_ _ _ | refine Kept.trans ?_ (by assumption)))⟩
  · have hm1 := ck_t hs
    have hm2 := ck_f hs
    cases ha : isW s a
    all_goals
      rw [absW_y hs, ha]
      go_enter Tryd.func55, Tryd.ntmps55
      go_wp2_with (first | (go_at_call 72; refine (checkWords1A _ _ _ _ (by repeat (first | assumption | refine Tab.alloc ?_ _))).mono ?_; rintro e w41 ⟨rfl, hk41⟩; obtain ⟨hc41, hf41⟩ := bcell hk41.2; have ht41 := hk41.1; have hz41 := hk41.2.size; (try simp only [World.size_alloc] at hz41)) | (go_at_call 68; refine (integer_any _ _ _ (by repeat (first | assumption | refine Tab.alloc ?_ _))).mono ?_; rintro e w42 ⟨rfl, hk42⟩; obtain ⟨hc42, hf42⟩ := bcell hk42.2; have ht42 := hk42.1; have hz42 := hk42.2.size; (try simp only [World.size_alloc] at hz42)))
      go_returns
      exact ⟨by simp, (by repeat (first | assumption | exact Kept.refl ht | refine Kept.alloc ?_ _ _ | refine Kept.trans ?_ (by assumption)))⟩
theorem LengWord_any (s a : Int) (w : World) (ht : Tab w) :
    Calls Tryd.prog 57 #[.int .i64 s, .int .i64 a] w fun e w' => e = .returned (.tuple #[.int .i64 (lengW s a).1, .int .i64 (lengW s a).2]) ∧ Kept w w' := by
  have hlt := ht.lt
  by_cases h1 : s = 1
  · subst h1
    rw [lengW_x]
    go_enter Tryd.func57, Tryd.ntmps57
    go_wp2_with (first | (go_at_call 72; refine (checkWords1A _ _ _ _ (by repeat (first | assumption | refine Tab.alloc ?_ _))).mono ?_; rintro e w43 ⟨rfl, hk43⟩; obtain ⟨hc43, hf43⟩ := bcell hk43.2; have ht43 := hk43.1; have hz43 := hk43.2.size; (try simp only [World.size_alloc] at hz43)))
    go_returns
    exact ⟨by simp, (by repeat (first | assumption | exact Kept.refl ht | refine Kept.alloc ?_ _ _ | refine Kept.trans ?_ (by assumption)))⟩
  · have h2 : (s == 1) = false := by simpa using h1
    cases hs : isSz s
    · rw [lengW_no h1 hs]
      have hm := fun ok => ck_no (ok := ok) hs
      go_enter Tryd.func57, Tryd.ntmps57
      go_wp2_with (first | (go_at_call 72; refine (checkWords1A _ _ _ _ (by repeat (first | assumption | refine Tab.alloc ?_ _))).mono ?_; rintro e w43 ⟨rfl, hk43⟩; obtain ⟨hc43, hf43⟩ := bcell hk43.2; have ht43 := hk43.1; have hz43 := hk43.2.size; (try simp only [World.size_alloc] at hz43)))
      go_returns
      exact ⟨by simp, (by repeat (first | assumption | exact Kept.refl ht | refine Kept.alloc ?_ _ _ | refine Kept.trans ?_ (by assumption)))⟩
    · have hm1 := ck_t hs
      have hm2 := ck_f hs
      have hs1 := isSz_bd hs
      cases ha : isW s a
      all_goals
        rw [lengW_y h1 hs, ha]
        go_enter Tryd.func57, Tryd.ntmps57
        go_wp2_with (first | (go_at_call 72; refine (checkWords1A _ _ _ _ (by repeat (first | assumption | refine Tab.alloc ?_ _))).mono ?_; rintro e w43 ⟨rfl, hk43⟩; obtain ⟨hc43, hf43⟩ := bcell hk43.2; have ht43 := hk43.1; have hz43 := hk43.2.size; (try simp only [World.size_alloc] at hz43)))
        go_returns
        exact ⟨by simp, (by repeat (first | assumption | exact Kept.refl ht | refine Kept.alloc ?_ _ _ | refine Kept.trans ?_ (by assumption)))⟩
theorem ShortenWord_any (s a : Int) (w : World) (ht : Tab w) :
    Calls Tryd.prog 59 #[.int .i64 s, .int .i64 a] w fun e w' => e = .returned (.tuple #[.int .i64 (shortW s a).1, .int .i64 (shortW s a).2]) ∧ Kept w w' := by
  have hlt := ht.lt
  by_cases h1 : s = -1
  · subst h1
    rw [shortW_x]
    go_enter Tryd.func59, Tryd.ntmps59
    go_wp2_with (first | (go_at_call 72; refine (checkWords1A _ _ _ _ (by repeat (first | assumption | refine Tab.alloc ?_ _))).mono ?_; rintro e w44 ⟨rfl, hk44⟩; obtain ⟨hc44, hf44⟩ := bcell hk44.2; have ht44 := hk44.1; have hz44 := hk44.2.size; (try simp only [World.size_alloc] at hz44)) | (go_at_call 16; refine (IsWord_any _ _ _ (by repeat (first | assumption | refine Tab.alloc ?_ _))).mono ?_; rintro e w3 ⟨rfl, hk3⟩; obtain ⟨hc3, hf3⟩ := bcell hk3.2; have ht3 := hk3.1; have hz3 := hk3.2.size; (try simp only [World.size_alloc] at hz3)))
    go_returns
    exact ⟨by simp, (by repeat (first | assumption | exact Kept.refl ht | refine Kept.alloc ?_ _ _ | refine Kept.trans ?_ (by assumption)))⟩
  · have h2 : (s == -1) = false := by simpa using h1
    cases hs : isSz s
    · rw [shortW_no h1 hs]
      have hm := fun ok => ck_no (ok := ok) hs
      go_enter Tryd.func59, Tryd.ntmps59
      go_wp2_with (first | (go_at_call 72; refine (checkWords1A _ _ _ _ (by repeat (first | assumption | refine Tab.alloc ?_ _))).mono ?_; rintro e w44 ⟨rfl, hk44⟩; obtain ⟨hc44, hf44⟩ := bcell hk44.2; have ht44 := hk44.1; have hz44 := hk44.2.size; (try simp only [World.size_alloc] at hz44)) | (go_at_call 16; refine (IsWord_any _ _ _ (by repeat (first | assumption | refine Tab.alloc ?_ _))).mono ?_; rintro e w3 ⟨rfl, hk3⟩; obtain ⟨hc3, hf3⟩ := bcell hk3.2; have ht3 := hk3.1; have hz3 := hk3.2.size; (try simp only [World.size_alloc] at hz3)))
      go_returns
      exact ⟨by simp, (by repeat (first | assumption | exact Kept.refl ht | refine Kept.alloc ?_ _ _ | refine Kept.trans ?_ (by assumption)))⟩
    · have hm1 := ck_t hs
      have hm2 := ck_f hs
      have hs1 := isSz_bd hs
      cases ha : isW s a <;> cases hb : isW (s - 1) a
      all_goals
        rw [shortW_y h1 hs, ha, hb]
        go_enter Tryd.func59, Tryd.ntmps59
        go_wp2_with (first | (go_at_call 72; refine (checkWords1A _ _ _ _ (by repeat (first | assumption | refine Tab.alloc ?_ _))).mono ?_; rintro e w44 ⟨rfl, hk44⟩; obtain ⟨hc44, hf44⟩ := bcell hk44.2; have ht44 := hk44.1; have hz44 := hk44.2.size; (try simp only [World.size_alloc] at hz44)) | (go_at_call 16; refine (IsWord_any _ _ _ (by repeat (first | assumption | refine Tab.alloc ?_ _))).mono ?_; rintro e w3 ⟨rfl, hk3⟩; obtain ⟨hc3, hf3⟩ := bcell hk3.2; have ht3 := hk3.1; have hz3 := hk3.2.size; (try simp only [World.size_alloc] at hz3)))
        go_returns
        exact ⟨by simp, (by repeat (first | assumption | exact Kept.refl ht | refine Kept.alloc ?_ _ _ | refine Kept.trans ?_ (by assumption)))⟩
end Go.Proofs.YtkehmdocjjadnaaDoor
