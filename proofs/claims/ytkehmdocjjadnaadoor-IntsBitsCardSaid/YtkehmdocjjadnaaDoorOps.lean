/- What the program's arithmetic on integers of a size returns, for every size and numbers. Condition: the table holds what its initialiser lays. -/
import Derived.Test.YtkehmdocjjadnaaDoorCkA
namespace Go.Proofs.YtkehmdocjjadnaaDoor
open Go.ChangeShapes Go.WideShapes Go.ChangeAt Go.RowKit

theorem Add_any (s a b : Int) (w : World) (ht : Tab w) :
    Calls Tryd.prog 31 #[.int .i64 s, .int .i64 a, .int .i64 b] w fun e w' => e = .returned (.tuple #[.int .i64 (u2 s a b (a + b)).1, .int .i64 (u2 s a b (a + b)).2]) ∧ Kept w w' := by
  have hlt := ht.lt
  cases hs : isSz s
  · rw [u2_no hs]
    have hm := fun ok => ck_no (ok := ok) hs
    go_enter Tryd.func31, Tryd.ntmps31
    go_wp2_with (first | (go_at_call 63; refine (checkInts2A _ _ _ _ _ (by repeat (first | assumption | refine Tab.alloc ?_ _))).mono ?_; rintro e w2 ⟨rfl, hk2⟩; obtain ⟨hc2, hf2⟩ := bcell hk2.2; have ht2 := hk2.1; have hz2 := hk2.2.size; (try simp only [World.size_alloc] at hz2)) | (go_at_call 68; refine (integer_any _ _ _ (by repeat (first | assumption | refine Tab.alloc ?_ _))).mono ?_; rintro e w3 ⟨rfl, hk3⟩; obtain ⟨hc3, hf3⟩ := bcell hk3.2; have ht3 := hk3.1; have hz3 := hk3.2.size; (try simp only [World.size_alloc] at hz3)))
    go_returns
    exact ⟨by simp, (by repeat (first | assumption | exact Kept.refl ht | refine Kept.alloc ?_ _ _ | refine Kept.trans ?_ (by assumption)))⟩
  · have hm1 := ck_t hs
    have hm2 := ck_f hs
    rcases isI_or s a with ⟨ha, la, ua⟩ | ha <;> rcases isI_or s b with ⟨hb, lb, ub⟩ | hb
    all_goals
      rw [u2_y hs, ha, hb]
      go_enter Tryd.func31, Tryd.ntmps31
      go_wp2_with (first | (go_at_call 63; refine (checkInts2A _ _ _ _ _ (by repeat (first | assumption | refine Tab.alloc ?_ _))).mono ?_; rintro e w4 ⟨rfl, hk4⟩; obtain ⟨hc4, hf4⟩ := bcell hk4.2; have ht4 := hk4.1; have hz4 := hk4.2.size; (try simp only [World.size_alloc] at hz4)) | (go_at_call 68; refine (integer_any _ _ _ (by repeat (first | assumption | refine Tab.alloc ?_ _))).mono ?_; rintro e w5 ⟨rfl, hk5⟩; obtain ⟨hc5, hf5⟩ := bcell hk5.2; have ht5 := hk5.1; have hz5 := hk5.2.size; (try simp only [World.size_alloc] at hz5)))
      go_returns
      exact ⟨by simp, (by repeat (first | assumption | exact Kept.refl ht | refine Kept.alloc ?_ _ _ | refine Kept.trans ?_ (by assumption)))⟩
theorem Sub_any (s a b : Int) (w : World) (ht : Tab w) :
    Calls Tryd.prog 33 #[.int .i64 s, .int .i64 a, .int .i64 b] w fun e w' => e = .returned (.tuple #[.int .i64 (u2 s a b (a - b)).1, .int .i64 (u2 s a b (a - b)).2]) ∧ Kept w w' := by
  have hlt := ht.lt
  cases hs : isSz s
  · rw [u2_no hs]
    have hm := fun ok => ck_no (ok := ok) hs
    go_enter Tryd.func33, Tryd.ntmps33
    go_wp2_with (first | (go_at_call 63; refine (checkInts2A _ _ _ _ _ (by repeat (first | assumption | refine Tab.alloc ?_ _))).mono ?_; rintro e w6 ⟨rfl, hk6⟩; obtain ⟨hc6, hf6⟩ := bcell hk6.2; have ht6 := hk6.1; have hz6 := hk6.2.size; (try simp only [World.size_alloc] at hz6)) | (go_at_call 68; refine (integer_any _ _ _ (by repeat (first | assumption | refine Tab.alloc ?_ _))).mono ?_; rintro e w7 ⟨rfl, hk7⟩; obtain ⟨hc7, hf7⟩ := bcell hk7.2; have ht7 := hk7.1; have hz7 := hk7.2.size; (try simp only [World.size_alloc] at hz7)))
    go_returns
    exact ⟨by simp, (by repeat (first | assumption | exact Kept.refl ht | refine Kept.alloc ?_ _ _ | refine Kept.trans ?_ (by assumption)))⟩
  · have hm1 := ck_t hs
    have hm2 := ck_f hs
    rcases isI_or s a with ⟨ha, la, ua⟩ | ha <;> rcases isI_or s b with ⟨hb, lb, ub⟩ | hb
    all_goals
      rw [u2_y hs, ha, hb]
      go_enter Tryd.func33, Tryd.ntmps33
      go_wp2_with (first | (go_at_call 63; refine (checkInts2A _ _ _ _ _ (by repeat (first | assumption | refine Tab.alloc ?_ _))).mono ?_; rintro e w8 ⟨rfl, hk8⟩; obtain ⟨hc8, hf8⟩ := bcell hk8.2; have ht8 := hk8.1; have hz8 := hk8.2.size; (try simp only [World.size_alloc] at hz8)) | (go_at_call 68; refine (integer_any _ _ _ (by repeat (first | assumption | refine Tab.alloc ?_ _))).mono ?_; rintro e w9 ⟨rfl, hk9⟩; obtain ⟨hc9, hf9⟩ := bcell hk9.2; have ht9 := hk9.1; have hz9 := hk9.2.size; (try simp only [World.size_alloc] at hz9)))
      go_returns
      exact ⟨by simp, (by repeat (first | assumption | exact Kept.refl ht | refine Kept.alloc ?_ _ _ | refine Kept.trans ?_ (by assumption)))⟩
theorem Mul_any (s a b : Int) (w : World) (ht : Tab w) :
    Calls Tryd.prog 35 #[.int .i64 s, .int .i64 a, .int .i64 b] w fun e w' => e = .returned (.tuple #[.int .i64 (u2 s a b (a * b)).1, .int .i64 (u2 s a b (a * b)).2]) ∧ Kept w w' := by
  have hlt := ht.lt
  cases hs : isSz s
  · rw [u2_no hs]
    have hm := fun ok => ck_no (ok := ok) hs
    go_enter Tryd.func35, Tryd.ntmps35
    go_wp2_with (first | (go_at_call 63; refine (checkInts2A _ _ _ _ _ (by repeat (first | assumption | refine Tab.alloc ?_ _))).mono ?_; rintro e w10 ⟨rfl, hk10⟩; obtain ⟨hc10, hf10⟩ := bcell hk10.2; have ht10 := hk10.1; have hz10 := hk10.2.size; (try simp only [World.size_alloc] at hz10)) | (go_at_call 70; refine (product_any _ _ _ _ (by repeat (first | assumption | refine Tab.alloc ?_ _)) hs (by assumption) (by assumption) (by assumption) (by assumption)).mono ?_; rintro e w11 ⟨rfl, hk11⟩; obtain ⟨hc11, hf11⟩ := bcell hk11.2; have ht11 := hk11.1; have hz11 := hk11.2.size; (try simp only [World.size_alloc] at hz11)))
    go_returns
    exact ⟨by simp, (by repeat (first | assumption | exact Kept.refl ht | refine Kept.alloc ?_ _ _ | refine Kept.trans ?_ (by assumption)))⟩
  · have hm1 := ck_t hs
    have hm2 := ck_f hs
    rcases isI_or s a with ⟨ha, la, ua⟩ | ha <;> rcases isI_or s b with ⟨hb, lb, ub⟩ | hb
    all_goals
      rw [u2_y hs, ha, hb]
      go_enter Tryd.func35, Tryd.ntmps35
      go_wp2_with (first | (go_at_call 63; refine (checkInts2A _ _ _ _ _ (by repeat (first | assumption | refine Tab.alloc ?_ _))).mono ?_; rintro e w12 ⟨rfl, hk12⟩; obtain ⟨hc12, hf12⟩ := bcell hk12.2; have ht12 := hk12.1; have hz12 := hk12.2.size; (try simp only [World.size_alloc] at hz12)) | (go_at_call 70; refine (product_any _ _ _ _ (by repeat (first | assumption | refine Tab.alloc ?_ _)) hs (by assumption) (by assumption) (by assumption) (by assumption)).mono ?_; rintro e w13 ⟨rfl, hk13⟩; obtain ⟨hc13, hf13⟩ := bcell hk13.2; have ht13 := hk13.1; have hz13 := hk13.2.size; (try simp only [World.size_alloc] at hz13)))
      go_returns
      exact ⟨by simp, (by repeat (first | assumption | exact Kept.refl ht | refine Kept.alloc ?_ _ _ | refine Kept.trans ?_ (by assumption)))⟩
theorem Over_any (s a b : Int) (w : World) (ht : Tab w) :
    Calls Tryd.prog 37 #[.int .i64 s, .int .i64 a, .int .i64 b] w fun e w' => e = .returned (.tuple #[.int .i64 (d2 s a b (a.tdiv b)).1, .int .i64 (d2 s a b (a.tdiv b)).2]) ∧ Kept w w' := by
  have hlt := ht.lt
  cases hs : isSz s
  · rw [d2_no hs]
    have hm := fun ok => ck_no (ok := ok) hs
    go_enter Tryd.func37, Tryd.ntmps37
    go_wp2_with (first | (go_at_call 63; refine (checkInts2A _ _ _ _ _ (by repeat (first | assumption | refine Tab.alloc ?_ _))).mono ?_; rintro e w14 ⟨rfl, hk14⟩; obtain ⟨hc14, hf14⟩ := bcell hk14.2; have ht14 := hk14.1; have hz14 := hk14.2.size; (try simp only [World.size_alloc] at hz14)))
    go_returns
    exact ⟨by simp, (by repeat (first | assumption | exact Kept.refl ht | refine Kept.alloc ?_ _ _ | refine Kept.trans ?_ (by assumption)))⟩
  · have hm1 := ck_t hs
    have hm2 := ck_f hs
    rcases isI_or s a with ⟨ha, la, ua⟩ | ha <;> rcases isI_or s b with ⟨hb, lb, ub⟩ | hb
    · by_cases h0 : b = 0
      · subst h0
        rw [d2_z hs ha hb rfl]
        go_enter Tryd.func37, Tryd.ntmps37
        go_wp2_with (first | (go_at_call 63; refine (checkInts2A _ _ _ _ _ (by repeat (first | assumption | refine Tab.alloc ?_ _))).mono ?_; rintro e w15 ⟨rfl, hk15⟩; obtain ⟨hc15, hf15⟩ := bcell hk15.2; have ht15 := hk15.1; have hz15 := hk15.2.size; (try simp only [World.size_alloc] at hz15)))
        go_returns
        exact ⟨by simp, (by repeat (first | assumption | exact Kept.refl ht | refine Kept.alloc ?_ _ _ | refine Kept.trans ?_ (by assumption)))⟩
      · have hb0 : (b == 0) = false := by simpa using h0
        rw [d2_nz hs ha hb h0]
        obtain ⟨q1, q2⟩ := tdiv_bd (b := b) la ua
        go_enter Tryd.func37, Tryd.ntmps37
        go_wp2_with (first | (go_at_call 63; refine (checkInts2A _ _ _ _ _ (by repeat (first | assumption | refine Tab.alloc ?_ _))).mono ?_; rintro e w16 ⟨rfl, hk16⟩; obtain ⟨hc16, hf16⟩ := bcell hk16.2; have ht16 := hk16.1; have hz16 := hk16.2.size; (try simp only [World.size_alloc] at hz16)))
        go_returns
        exact ⟨by simp, (by repeat (first | assumption | exact Kept.refl ht | refine Kept.alloc ?_ _ _ | refine Kept.trans ?_ (by assumption)))⟩
    all_goals
      rw [d2_n hs (by simp [ha, hb])]
      go_enter Tryd.func37, Tryd.ntmps37
      go_wp2_with (first | (go_at_call 63; refine (checkInts2A _ _ _ _ _ (by repeat (first | assumption | refine Tab.alloc ?_ _))).mono ?_; rintro e w17 ⟨rfl, hk17⟩; obtain ⟨hc17, hf17⟩ := bcell hk17.2; have ht17 := hk17.1; have hz17 := hk17.2.size; (try simp only [World.size_alloc] at hz17)))
      go_returns
      exact ⟨by simp, (by repeat (first | assumption | exact Kept.refl ht | refine Kept.alloc ?_ _ _ | refine Kept.trans ?_ (by assumption)))⟩
theorem Mod_any (s a b : Int) (w : World) (ht : Tab w) :
    Calls Tryd.prog 39 #[.int .i64 s, .int .i64 a, .int .i64 b] w fun e w' => e = .returned (.tuple #[.int .i64 (d2 s a b (modV a b)).1, .int .i64 (d2 s a b (modV a b)).2]) ∧ Kept w w' := by
  have hlt := ht.lt
  cases hs : isSz s
  · rw [d2_no hs]
    have hm := fun ok => ck_no (ok := ok) hs
    go_enter Tryd.func39, Tryd.ntmps39
    go_wp2_with (first | (go_at_call 63; refine (checkInts2A _ _ _ _ _ (by repeat (first | assumption | refine Tab.alloc ?_ _))).mono ?_; rintro e w18 ⟨rfl, hk18⟩; obtain ⟨hc18, hf18⟩ := bcell hk18.2; have ht18 := hk18.1; have hz18 := hk18.2.size; (try simp only [World.size_alloc] at hz18)) | (go_at_call 66; refine (magnitude_any _ _ (by assumption) (by assumption)).mono ?_; rintro e w' ⟨rfl, rfl⟩))
    go_returns
    exact ⟨by simp, (by repeat (first | assumption | exact Kept.refl ht | refine Kept.alloc ?_ _ _ | refine Kept.trans ?_ (by assumption)))⟩
  · have hm1 := ck_t hs
    have hm2 := ck_f hs
    rcases isI_or s a with ⟨ha, la, ua⟩ | ha <;> rcases isI_or s b with ⟨hb, lb, ub⟩ | hb
    · by_cases h0 : b = 0
      · subst h0
        rw [d2_z hs ha hb rfl]
        go_enter Tryd.func39, Tryd.ntmps39
        go_wp2_with (first | (go_at_call 63; refine (checkInts2A _ _ _ _ _ (by repeat (first | assumption | refine Tab.alloc ?_ _))).mono ?_; rintro e w19 ⟨rfl, hk19⟩; obtain ⟨hc19, hf19⟩ := bcell hk19.2; have ht19 := hk19.1; have hz19 := hk19.2.size; (try simp only [World.size_alloc] at hz19)) | (go_at_call 66; refine (magnitude_any _ _ (by assumption) (by assumption)).mono ?_; rintro e w' ⟨rfl, rfl⟩))
        go_returns
        exact ⟨by simp, (by repeat (first | assumption | exact Kept.refl ht | refine Kept.alloc ?_ _ _ | refine Kept.trans ?_ (by assumption)))⟩
      · have hb0 : (b == 0) = false := by simpa using h0
        rw [d2_nz hs ha hb h0]
        obtain ⟨q1, q2⟩ := tmod_bd (a := a) h0
        have q3 : -999999999999999999 ≤ a.tmod b := by omega
        have q4 : a.tmod b ≤ 999999999999999999 := by omega
        clear q1 q2
        by_cases hn : a.tmod b < 0
        · rw [modV_neg hn]
          have m1 := mag_nn b
          have m2 : mag b ≤ 999999999999999999 := by unfold mag; split <;> omega
          go_enter Tryd.func39, Tryd.ntmps39
          go_wp2_with (first | (go_at_call 63; refine (checkInts2A _ _ _ _ _ (by repeat (first | assumption | refine Tab.alloc ?_ _))).mono ?_; rintro e w20 ⟨rfl, hk20⟩; obtain ⟨hc20, hf20⟩ := bcell hk20.2; have ht20 := hk20.1; have hz20 := hk20.2.size; (try simp only [World.size_alloc] at hz20)) | (go_at_call 66; refine (magnitude_any _ _ (by assumption) (by assumption)).mono ?_; rintro e w' ⟨rfl, rfl⟩))
          go_returns
          exact ⟨by simp, (by repeat (first | assumption | exact Kept.refl ht | refine Kept.alloc ?_ _ _ | refine Kept.trans ?_ (by assumption)))⟩
        · rw [modV_pos hn]
          go_enter Tryd.func39, Tryd.ntmps39
          go_wp2_with (first | (go_at_call 63; refine (checkInts2A _ _ _ _ _ (by repeat (first | assumption | refine Tab.alloc ?_ _))).mono ?_; rintro e w21 ⟨rfl, hk21⟩; obtain ⟨hc21, hf21⟩ := bcell hk21.2; have ht21 := hk21.1; have hz21 := hk21.2.size; (try simp only [World.size_alloc] at hz21)) | (go_at_call 66; refine (magnitude_any _ _ (by assumption) (by assumption)).mono ?_; rintro e w' ⟨rfl, rfl⟩))
          go_returns
          exact ⟨by simp, (by repeat (first | assumption | exact Kept.refl ht | refine Kept.alloc ?_ _ _ | refine Kept.trans ?_ (by assumption)))⟩
    all_goals
      rw [d2_n hs (by simp [ha, hb])]
      go_enter Tryd.func39, Tryd.ntmps39
      go_wp2_with (first | (go_at_call 63; refine (checkInts2A _ _ _ _ _ (by repeat (first | assumption | refine Tab.alloc ?_ _))).mono ?_; rintro e w22 ⟨rfl, hk22⟩; obtain ⟨hc22, hf22⟩ := bcell hk22.2; have ht22 := hk22.1; have hz22 := hk22.2.size; (try simp only [World.size_alloc] at hz22)) | (go_at_call 66; refine (magnitude_any _ _ (by assumption) (by assumption)).mono ?_; rintro e w' ⟨rfl, rfl⟩))
      go_returns
      exact ⟨by simp, (by repeat (first | assumption | exact Kept.refl ht | refine Kept.alloc ?_ _ _ | refine Kept.trans ?_ (by assumption)))⟩
theorem Neg_any (s a : Int) (w : World) (ht : Tab w) :
    Calls Tryd.prog 21 #[.int .i64 s, .int .i64 a] w fun e w' => e = .returned (.tuple #[.int .i64 (one s a (-a)).1, .int .i64 (one s a (-a)).2]) ∧ Kept w w' := by
  have hlt := ht.lt
  cases hs : isSz s
  · rw [one_no hs]
    have hm := fun ok => ck_no (ok := ok) hs
    go_enter Tryd.func21, Tryd.ntmps21
    go_wp2_with (first | (go_at_call 63; refine (checkInts1A _ _ _ _ (by repeat (first | assumption | refine Tab.alloc ?_ _))).mono ?_; rintro e w23 ⟨rfl, hk23⟩; obtain ⟨hc23, hf23⟩ := bcell hk23.2; have ht23 := hk23.1; have hz23 := hk23.2.size; (try simp only [World.size_alloc] at hz23)))
    go_returns
    exact ⟨by simp, (by repeat (first | assumption | exact Kept.refl ht | refine Kept.alloc ?_ _ _ | refine Kept.trans ?_ (by assumption)))⟩
  · have hm1 := ck_t hs
    have hm2 := ck_f hs
    rcases isI_or s a with ⟨ha, la, ua⟩ | ha
    all_goals
      rw [one_y hs, ha]
      go_enter Tryd.func21, Tryd.ntmps21
      go_wp2_with (first | (go_at_call 63; refine (checkInts1A _ _ _ _ (by repeat (first | assumption | refine Tab.alloc ?_ _))).mono ?_; rintro e w24 ⟨rfl, hk24⟩; obtain ⟨hc24, hf24⟩ := bcell hk24.2; have ht24 := hk24.1; have hz24 := hk24.2.size; (try simp only [World.size_alloc] at hz24)))
      go_returns
      exact ⟨by simp, (by repeat (first | assumption | exact Kept.refl ht | refine Kept.alloc ?_ _ _ | refine Kept.trans ?_ (by assumption)))⟩
theorem Abs_any (s a : Int) (w : World) (ht : Tab w) :
    Calls Tryd.prog 23 #[.int .i64 s, .int .i64 a] w fun e w' => e = .returned (.tuple #[.int .i64 (one s a (mag a)).1, .int .i64 (one s a (mag a)).2]) ∧ Kept w w' := by
  have hlt := ht.lt
  cases hs : isSz s
  · rw [one_no hs]
    have hm := fun ok => ck_no (ok := ok) hs
    go_enter Tryd.func23, Tryd.ntmps23
    go_wp2_with (first | (go_at_call 63; refine (checkInts1A _ _ _ _ (by repeat (first | assumption | refine Tab.alloc ?_ _))).mono ?_; rintro e w25 ⟨rfl, hk25⟩; obtain ⟨hc25, hf25⟩ := bcell hk25.2; have ht25 := hk25.1; have hz25 := hk25.2.size; (try simp only [World.size_alloc] at hz25)) | (go_at_call 66; refine (magnitude_any _ _ (by assumption) (by assumption)).mono ?_; rintro e w' ⟨rfl, rfl⟩))
    go_returns
    exact ⟨by simp, (by repeat (first | assumption | exact Kept.refl ht | refine Kept.alloc ?_ _ _ | refine Kept.trans ?_ (by assumption)))⟩
  · have hm1 := ck_t hs
    have hm2 := ck_f hs
    rcases isI_or s a with ⟨ha, la, ua⟩ | ha
    all_goals
      rw [one_y hs, ha]
      go_enter Tryd.func23, Tryd.ntmps23
      go_wp2_with (first | (go_at_call 63; refine (checkInts1A _ _ _ _ (by repeat (first | assumption | refine Tab.alloc ?_ _))).mono ?_; rintro e w26 ⟨rfl, hk26⟩; obtain ⟨hc26, hf26⟩ := bcell hk26.2; have ht26 := hk26.1; have hz26 := hk26.2.size; (try simp only [World.size_alloc] at hz26)) | (go_at_call 66; refine (magnitude_any _ _ (by assumption) (by assumption)).mono ?_; rintro e w' ⟨rfl, rfl⟩))
      go_returns
      exact ⟨by simp, (by repeat (first | assumption | exact Kept.refl ht | refine Kept.alloc ?_ _ _ | refine Kept.trans ?_ (by assumption)))⟩
theorem Sign_any (s a : Int) (w : World) (ht : Tab w) :
    Calls Tryd.prog 25 #[.int .i64 s, .int .i64 a] w fun e w' => e = .returned (.tuple #[.int .i64 (one s a (sgn a)).1, .int .i64 (one s a (sgn a)).2]) ∧ Kept w w' := by
  have hlt := ht.lt
  cases hs : isSz s
  · rw [one_no hs]
    have hm := fun ok => ck_no (ok := ok) hs
    go_enter Tryd.func25, Tryd.ntmps25
    go_wp2_with (first | (go_at_call 63; refine (checkInts1A _ _ _ _ (by repeat (first | assumption | refine Tab.alloc ?_ _))).mono ?_; rintro e w27 ⟨rfl, hk27⟩; obtain ⟨hc27, hf27⟩ := bcell hk27.2; have ht27 := hk27.1; have hz27 := hk27.2.size; (try simp only [World.size_alloc] at hz27)))
    go_returns
    exact ⟨by simp, (by repeat (first | assumption | exact Kept.refl ht | refine Kept.alloc ?_ _ _ | refine Kept.trans ?_ (by assumption)))⟩
  · have hm1 := ck_t hs
    have hm2 := ck_f hs
    rcases isI_or s a with ⟨ha, la, ua⟩ | ha
    · rw [one_y hs, ha]
      rcases (by omega : a < 0 ∨ a = 0 ∨ 0 < a) with h | rfl | h
      · rw [sgn_neg h]
        go_enter Tryd.func25, Tryd.ntmps25
        go_wp2_with (first | (go_at_call 63; refine (checkInts1A _ _ _ _ (by repeat (first | assumption | refine Tab.alloc ?_ _))).mono ?_; rintro e w28 ⟨rfl, hk28⟩; obtain ⟨hc28, hf28⟩ := bcell hk28.2; have ht28 := hk28.1; have hz28 := hk28.2.size; (try simp only [World.size_alloc] at hz28)))
        go_returns
        exact ⟨by simp, (by repeat (first | assumption | exact Kept.refl ht | refine Kept.alloc ?_ _ _ | refine Kept.trans ?_ (by assumption)))⟩
      · rw [sgn_z]
        go_enter Tryd.func25, Tryd.ntmps25
        go_wp2_with (first | (go_at_call 63; refine (checkInts1A _ _ _ _ (by repeat (first | assumption | refine Tab.alloc ?_ _))).mono ?_; rintro e w29 ⟨rfl, hk29⟩; obtain ⟨hc29, hf29⟩ := bcell hk29.2; have ht29 := hk29.1; have hz29 := hk29.2.size; (try simp only [World.size_alloc] at hz29)))
        go_returns
        exact ⟨by simp, (by repeat (first | assumption | exact Kept.refl ht | refine Kept.alloc ?_ _ _ | refine Kept.trans ?_ (by assumption)))⟩
      · rw [sgn_pos h]
        have h' : ¬ a < 0 := by omega
        go_enter Tryd.func25, Tryd.ntmps25
        go_wp2_with (first | (go_at_call 63; refine (checkInts1A _ _ _ _ (by repeat (first | assumption | refine Tab.alloc ?_ _))).mono ?_; rintro e w30 ⟨rfl, hk30⟩; obtain ⟨hc30, hf30⟩ := bcell hk30.2; have ht30 := hk30.1; have hz30 := hk30.2.size; (try simp only [World.size_alloc] at hz30)))
        go_returns
        exact ⟨by simp, (by repeat (first | assumption | exact Kept.refl ht | refine Kept.alloc ?_ _ _ | refine Kept.trans ?_ (by assumption)))⟩
    · rw [one_y hs, ha]
      go_enter Tryd.func25, Tryd.ntmps25
      go_wp2_with (first | (go_at_call 63; refine (checkInts1A _ _ _ _ (by repeat (first | assumption | refine Tab.alloc ?_ _))).mono ?_; rintro e w31 ⟨rfl, hk31⟩; obtain ⟨hc31, hf31⟩ := bcell hk31.2; have ht31 := hk31.1; have hz31 := hk31.2.size; (try simp only [World.size_alloc] at hz31)))
      go_returns
      exact ⟨by simp, (by repeat (first | assumption | exact Kept.refl ht | refine Kept.alloc ?_ _ _ | refine Kept.trans ?_ (by assumption)))⟩
theorem Odd_any (s a : Int) (w : World) (ht : Tab w) :
    Calls Tryd.prog 18 #[.int .i64 s, .int .i64 a] w fun e w' => e = .returned (.tuple #[.bool (od s a).1, .int .i64 (od s a).2]) ∧ Kept w w' := by
  have hlt := ht.lt
  cases hs : isSz s
  · rw [od_no hs]
    have hm := fun ok => ck_no (ok := ok) hs
    go_enter Tryd.func18, Tryd.ntmps18
    go_wp2_with (first | (go_at_call 63; refine (checkInts1A _ _ _ _ (by repeat (first | assumption | refine Tab.alloc ?_ _))).mono ?_; rintro e w32 ⟨rfl, hk32⟩; obtain ⟨hc32, hf32⟩ := bcell hk32.2; have ht32 := hk32.1; have hz32 := hk32.2.size; (try simp only [World.size_alloc] at hz32)))
    go_returns
    exact ⟨by simp, (by repeat (first | assumption | exact Kept.refl ht | refine Kept.alloc ?_ _ _ | refine Kept.trans ?_ (by assumption)))⟩
  · have hm1 := ck_t hs
    have hm2 := ck_f hs
    rcases isI_or s a with ⟨ha, la, ua⟩ | ha
    all_goals
      rw [od_y hs, ha]
      go_enter Tryd.func18, Tryd.ntmps18
      go_wp2_with (first | (go_at_call 63; refine (checkInts1A _ _ _ _ (by repeat (first | assumption | refine Tab.alloc ?_ _))).mono ?_; rintro e w33 ⟨rfl, hk33⟩; obtain ⟨hc33, hf33⟩ := bcell hk33.2; have ht33 := hk33.1; have hz33 := hk33.2.size; (try simp only [World.size_alloc] at hz33)))
      go_returns
      exact ⟨by simp [odd_eq], (by repeat (first | assumption | exact Kept.refl ht | refine Kept.alloc ?_ _ _ | refine Kept.trans ?_ (by assumption)))⟩
theorem Leng_any (s a : Int) (w : World) (ht : Tab w) :
    Calls Tryd.prog 27 #[.int .i64 s, .int .i64 a] w fun e w' => e = .returned (.tuple #[.int .i64 (leng s a).1, .int .i64 (leng s a).2]) ∧ Kept w w' := by
  have hlt := ht.lt
  by_cases h1 : s = 1
  · subst h1
    rw [leng_x]
    go_enter Tryd.func27, Tryd.ntmps27
    go_wp2_with (first | (go_at_call 63; refine (checkInts1A _ _ _ _ (by repeat (first | assumption | refine Tab.alloc ?_ _))).mono ?_; rintro e w34 ⟨rfl, hk34⟩; obtain ⟨hc34, hf34⟩ := bcell hk34.2; have ht34 := hk34.1; have hz34 := hk34.2.size; (try simp only [World.size_alloc] at hz34)))
    go_returns
    exact ⟨by simp, (by repeat (first | assumption | exact Kept.refl ht | refine Kept.alloc ?_ _ _ | refine Kept.trans ?_ (by assumption)))⟩
  · have h2 : (s == 1) = false := by simpa using h1
    cases hs : isSz s
    · rw [leng_no h1 hs]
      have hm := fun ok => ck_no (ok := ok) hs
      go_enter Tryd.func27, Tryd.ntmps27
      go_wp2_with (first | (go_at_call 63; refine (checkInts1A _ _ _ _ (by repeat (first | assumption | refine Tab.alloc ?_ _))).mono ?_; rintro e w35 ⟨rfl, hk35⟩; obtain ⟨hc35, hf35⟩ := bcell hk35.2; have ht35 := hk35.1; have hz35 := hk35.2.size; (try simp only [World.size_alloc] at hz35)))
      go_returns
      exact ⟨by simp, (by repeat (first | assumption | exact Kept.refl ht | refine Kept.alloc ?_ _ _ | refine Kept.trans ?_ (by assumption)))⟩
    · have hm1 := ck_t hs
      have hm2 := ck_f hs
      have hs1 := isSz_bd hs
      rcases isI_or s a with ⟨ha, la, ua⟩ | ha
      all_goals
        rw [leng_y h1 hs, ha]
        go_enter Tryd.func27, Tryd.ntmps27
        go_wp2_with (first | (go_at_call 63; refine (checkInts1A _ _ _ _ (by repeat (first | assumption | refine Tab.alloc ?_ _))).mono ?_; rintro e w36 ⟨rfl, hk36⟩; obtain ⟨hc36, hf36⟩ := bcell hk36.2; have ht36 := hk36.1; have hz36 := hk36.2.size; (try simp only [World.size_alloc] at hz36)))
        go_returns
        exact ⟨by simp, (by repeat (first | assumption | exact Kept.refl ht | refine Kept.alloc ?_ _ _ | refine Kept.trans ?_ (by assumption)))⟩
theorem Shorten_any (s a : Int) (w : World) (ht : Tab w) :
    Calls Tryd.prog 29 #[.int .i64 s, .int .i64 a] w fun e w' => e = .returned (.tuple #[.int .i64 (shorten s a).1, .int .i64 (shorten s a).2]) ∧ Kept w w' := by
  have hlt := ht.lt
  by_cases h1 : s = -1
  · subst h1
    rw [shorten_x]
    go_enter Tryd.func29, Tryd.ntmps29
    go_wp2_with (first | (go_at_call 63; refine (checkInts1A _ _ _ _ (by repeat (first | assumption | refine Tab.alloc ?_ _))).mono ?_; rintro e w37 ⟨rfl, hk37⟩; obtain ⟨hc37, hf37⟩ := bcell hk37.2; have ht37 := hk37.1; have hz37 := hk37.2.size; (try simp only [World.size_alloc] at hz37)) | (go_at_call 68; refine (integer_any _ _ _ (by repeat (first | assumption | refine Tab.alloc ?_ _))).mono ?_; rintro e w38 ⟨rfl, hk38⟩; obtain ⟨hc38, hf38⟩ := bcell hk38.2; have ht38 := hk38.1; have hz38 := hk38.2.size; (try simp only [World.size_alloc] at hz38)))
    go_returns
    exact ⟨by simp, (by repeat (first | assumption | exact Kept.refl ht | refine Kept.alloc ?_ _ _ | refine Kept.trans ?_ (by assumption)))⟩
  · have h2 : (s == -1) = false := by simpa using h1
    cases hs : isSz s
    · rw [shorten_no h1 hs]
      have hm := fun ok => ck_no (ok := ok) hs
      go_enter Tryd.func29, Tryd.ntmps29
      go_wp2_with (first | (go_at_call 63; refine (checkInts1A _ _ _ _ (by repeat (first | assumption | refine Tab.alloc ?_ _))).mono ?_; rintro e w39 ⟨rfl, hk39⟩; obtain ⟨hc39, hf39⟩ := bcell hk39.2; have ht39 := hk39.1; have hz39 := hk39.2.size; (try simp only [World.size_alloc] at hz39)) | (go_at_call 68; refine (integer_any _ _ _ (by repeat (first | assumption | refine Tab.alloc ?_ _))).mono ?_; rintro e w40 ⟨rfl, hk40⟩; obtain ⟨hc40, hf40⟩ := bcell hk40.2; have ht40 := hk40.1; have hz40 := hk40.2.size; (try simp only [World.size_alloc] at hz40)))
      go_returns
      exact ⟨by simp, (by repeat (first | assumption | exact Kept.refl ht | refine Kept.alloc ?_ _ _ | refine Kept.trans ?_ (by assumption)))⟩
    · have hm1 := ck_t hs
      have hm2 := ck_f hs
      have hs1 := isSz_bd hs
      rcases isI_or s a with ⟨ha, la, ua⟩ | ha
      all_goals
        rw [shorten_y h1 hs, ha]
        go_enter Tryd.func29, Tryd.ntmps29
        go_wp2_with (first | (go_at_call 63; refine (checkInts1A _ _ _ _ (by repeat (first | assumption | refine Tab.alloc ?_ _))).mono ?_; rintro e w41 ⟨rfl, hk41⟩; obtain ⟨hc41, hf41⟩ := bcell hk41.2; have ht41 := hk41.1; have hz41 := hk41.2.size; (try simp only [World.size_alloc] at hz41)) | (go_at_call 68; refine (integer_any _ _ _ (by repeat (first | assumption | refine Tab.alloc ?_ _))).mono ?_; rintro e w42 ⟨rfl, hk42⟩; obtain ⟨hc42, hf42⟩ := bcell hk42.2; have ht42 := hk42.1; have hz42 := hk42.2.size; (try simp only [World.size_alloc] at hz42)))
        go_returns
        exact ⟨by simp, (by repeat (first | assumption | exact Kept.refl ht | refine Kept.alloc ?_ _ _ | refine Kept.trans ?_ (by assumption)))⟩
theorem Max_any (s : Int) (w : World) (ht : Tab w) :
    Calls Tryd.prog 10 #[.int .i64 s] w fun e w' => e = .returned (.tuple #[.int .i64 (mx s), .int .i64 (ck s true)]) ∧ Kept w w' := by
  have hlt := ht.lt
  cases hs : isSz s
  · rw [ck_no hs, mx_no hs]
    go_enter Tryd.func10, Tryd.ntmps10
    go_wp2_with (first | (go_at_call 61; refine (limits_any _ _ (by repeat (first | assumption | refine Tab.alloc ?_ _))).mono ?_; rintro e w43 ⟨rfl, hk43⟩; obtain ⟨hc43, hf43⟩ := bcell hk43.2; have ht43 := hk43.1; have hz43 := hk43.2.size; (try simp only [World.size_alloc] at hz43)))
    go_returns
    exact ⟨by simp, (by repeat (first | assumption | exact Kept.refl ht | refine Kept.alloc ?_ _ _ | refine Kept.trans ?_ (by assumption)))⟩
  · rw [ck_t hs]
    go_enter Tryd.func10, Tryd.ntmps10
    go_wp2_with (first | (go_at_call 61; refine (limits_any _ _ (by repeat (first | assumption | refine Tab.alloc ?_ _))).mono ?_; rintro e w43 ⟨rfl, hk43⟩; obtain ⟨hc43, hf43⟩ := bcell hk43.2; have ht43 := hk43.1; have hz43 := hk43.2.size; (try simp only [World.size_alloc] at hz43)))
    go_returns
    exact ⟨by simp, (by repeat (first | assumption | exact Kept.refl ht | refine Kept.alloc ?_ _ _ | refine Kept.trans ?_ (by assumption)))⟩
theorem Width_any (s : Int) (w : World) (ht : Tab w) :
    Calls Tryd.prog 12 #[.int .i64 s] w fun e w' => e = .returned (.tuple #[.int .i64 (wd s), .int .i64 (ck s true)]) ∧ Kept w w' := by
  have hlt := ht.lt
  cases hs : isSz s
  · rw [ck_no hs, wd_no hs]
    go_enter Tryd.func12, Tryd.ntmps12
    go_wp2_with (first | (go_at_call 61; refine (limits_any _ _ (by repeat (first | assumption | refine Tab.alloc ?_ _))).mono ?_; rintro e w44 ⟨rfl, hk44⟩; obtain ⟨hc44, hf44⟩ := bcell hk44.2; have ht44 := hk44.1; have hz44 := hk44.2.size; (try simp only [World.size_alloc] at hz44)))
    go_returns
    exact ⟨by simp, (by repeat (first | assumption | exact Kept.refl ht | refine Kept.alloc ?_ _ _ | refine Kept.trans ?_ (by assumption)))⟩
  · rw [ck_t hs]
    go_enter Tryd.func12, Tryd.ntmps12
    go_wp2_with (first | (go_at_call 61; refine (limits_any _ _ (by repeat (first | assumption | refine Tab.alloc ?_ _))).mono ?_; rintro e w44 ⟨rfl, hk44⟩; obtain ⟨hc44, hf44⟩ := bcell hk44.2; have ht44 := hk44.1; have hz44 := hk44.2.size; (try simp only [World.size_alloc] at hz44)))
    go_returns
    exact ⟨by simp, (by repeat (first | assumption | exact Kept.refl ht | refine Kept.alloc ?_ _ _ | refine Kept.trans ?_ (by assumption)))⟩
end Go.Proofs.YtkehmdocjjadnaaDoor
