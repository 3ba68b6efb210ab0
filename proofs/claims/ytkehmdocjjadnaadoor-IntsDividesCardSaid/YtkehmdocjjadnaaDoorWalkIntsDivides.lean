/- The walk of IntsDivides: it returns true for every size and numbers. Condition: the table holds what its initialiser lays. -/
import Derived.Test.YtkehmdocjjadnaaDoorAwake
namespace Go.Proofs.YtkehmdocjjadnaaDoor
open Go.ChangeShapes Go.WideShapes Go.ChangeAt Go.RowKit

theorem over_v (s a b q : Int) (w : World) (ht : Tab w) (e1 : ∀ r, d2 s a b r = (r, 0)) (hq : a.tdiv b = q) :
    Calls Tryd.prog 37 #[.int .i64 s, .int .i64 a, .int .i64 b] w fun e w' => e = .returned (.tuple #[.int .i64 q, .int .i64 0]) ∧ Kept w w' := by
  have h := Over_any s a b w ht
  rw [e1, hq] at h
  exact h
theorem mod_v (s a b m : Int) (w : World) (ht : Tab w) (e1 : ∀ r, d2 s a b r = (r, 0)) (hm : modV a b = m) :
    Calls Tryd.prog 39 #[.int .i64 s, .int .i64 a, .int .i64 b] w fun e w' => e = .returned (.tuple #[.int .i64 m, .int .i64 0]) ∧ Kept w w' := by
  have h := Mod_any s a b w ht
  rw [e1, hm] at h
  exact h
theorem tmod_sign {a b : Int} : (a.tmod b < 0 → a < 0) ∧ (0 < a.tmod b → 0 < a) := by
  constructor
  · intro h
    by_cases h0 : 0 ≤ a
    · have := Int.tmod_nonneg b h0; omega
    · omega
  · intro h
    by_cases h0 : a ≤ 0
    · have := Int.tmod_nonneg b (a := -a) (by omega)
      rw [Int.neg_tmod] at this; omega
    · omega
theorem tdiv_back (a b : Int) : a - a.tdiv b * b = a.tmod b := by
  have := Int.mul_tdiv_add_tmod a b
  rw [Int.mul_comm] at this; omega
set_option maxRecDepth 100000 in
set_option maxHeartbeats 4000000 in
theorem IntsDivides_walk (s a b : Int) (w : World) (ht : Tab w) : Calls Tryd.prog 6 #[.int .i64 s, .int .i64 a, .int .i64 b] w fun e w' => e = .returned (.bool true) ∧ Kept w w' := by
  have hlt := ht.lt
  cases hs : isSz s
  · have e1 : ∀ r, d2 s a b r = (0, 1) := fun _ => d2_no hs
    go_enter Tryd.func6, Tryd.ntmps6
    go_wp2_with (first | (go_at_call 9; refine (awake_any _ (by repeat (first | assumption | refine Tab.alloc ?_ _))).mono ?_; rintro e w6 ⟨rfl, hk6⟩; obtain ⟨hc6, hf6⟩ := bcell hk6.2; have ht6 := hk6.1; have hz6 := hk6.2.size; (try simp only [World.size_alloc] at hz6)) | (go_at_call 37; refine (Over_any _ _ _ _ (by repeat (first | assumption | refine Tab.alloc ?_ _))).mono ?_; rintro e w7 ⟨rfl, hk7⟩; obtain ⟨hc7, hf7⟩ := bcell hk7.2; have ht7 := hk7.1; have hz7 := hk7.2.size; (try simp only [World.size_alloc] at hz7)) | (go_at_call 39; refine (Mod_any _ _ _ _ (by repeat (first | assumption | refine Tab.alloc ?_ _))).mono ?_; rintro e w8 ⟨rfl, hk8⟩; obtain ⟨hc8, hf8⟩ := bcell hk8.2; have ht8 := hk8.1; have hz8 := hk8.2.size; (try simp only [World.size_alloc] at hz8)) | (go_at_call 14; refine (Is_any _ _ _ (by repeat (first | assumption | refine Tab.alloc ?_ _))).mono ?_; rintro e w9 ⟨rfl, hk9⟩; obtain ⟨hc9, hf9⟩ := bcell hk9.2; have ht9 := hk9.1; have hz9 := hk9.2.size; (try simp only [World.size_alloc] at hz9)))
    go_returns
    exact ⟨rfl, (by repeat (first | assumption | exact Kept.refl ht | refine Kept.alloc ?_ _ _ | refine Kept.trans ?_ (by assumption)))⟩
  · rcases isI_or s a with ⟨ha, la, ua⟩ | ha <;> rcases isI_or s b with ⟨hb, lb, ub⟩ | hb
    · by_cases h0 : b = 0
      · subst h0
        have e1 : ∀ r, d2 s a 0 r = (0, 11) := fun _ => d2_z hs ha hb rfl
        go_enter Tryd.func6, Tryd.ntmps6
        go_wp2_with (first | (go_at_call 9; refine (awake_any _ (by repeat (first | assumption | refine Tab.alloc ?_ _))).mono ?_; rintro e w10 ⟨rfl, hk10⟩; obtain ⟨hc10, hf10⟩ := bcell hk10.2; have ht10 := hk10.1; have hz10 := hk10.2.size; (try simp only [World.size_alloc] at hz10)) | (go_at_call 37; refine (Over_any _ _ _ _ (by repeat (first | assumption | refine Tab.alloc ?_ _))).mono ?_; rintro e w11 ⟨rfl, hk11⟩; obtain ⟨hc11, hf11⟩ := bcell hk11.2; have ht11 := hk11.1; have hz11 := hk11.2.size; (try simp only [World.size_alloc] at hz11)) | (go_at_call 39; refine (Mod_any _ _ _ _ (by repeat (first | assumption | refine Tab.alloc ?_ _))).mono ?_; rintro e w12 ⟨rfl, hk12⟩; obtain ⟨hc12, hf12⟩ := bcell hk12.2; have ht12 := hk12.1; have hz12 := hk12.2.size; (try simp only [World.size_alloc] at hz12)) | (go_at_call 14; refine (Is_any _ _ _ (by repeat (first | assumption | refine Tab.alloc ?_ _))).mono ?_; rintro e w13 ⟨rfl, hk13⟩; obtain ⟨hc13, hf13⟩ := bcell hk13.2; have ht13 := hk13.1; have hz13 := hk13.2.size; (try simp only [World.size_alloc] at hz13)))
        go_returns
        exact ⟨rfl, (by repeat (first | assumption | exact Kept.refl ht | refine Kept.alloc ?_ _ _ | refine Kept.trans ?_ (by assumption)))⟩
      · have e1 : ∀ r, d2 s a b r = (r, 0) := fun _ => d2_nz hs ha hb h0
        obtain ⟨q1, q2⟩ := tmod_bd (a := a) h0
        obtain ⟨t1, t2⟩ := tdiv_bd (b := b) la ua
        have hback := tdiv_back a b
        have hsg := tmod_sign (a := a) (b := b)
        have p1 : -1999999999999999998 ≤ a.tdiv b * b := by omega
        have p2 : a.tdiv b * b ≤ 1999999999999999998 := by omega
        have hb0 : (b == 0) = false := by simpa using h0
        have hb1 : (b != 0) = true := by simpa using h0
        obtain ⟨q, hq⟩ : ∃ q, a.tdiv b = q := ⟨_, rfl⟩
        obtain ⟨r, hrr⟩ : ∃ r, a.tmod b = r := ⟨_, rfl⟩
        have cO := Lib.hid (fun w ht => over_v s a b q w ht e1 hq)
        rw [hq] at t1 t2 p1 p2 hback
        rw [hrr] at hback
        rcases (by omega : b < 0 ∨ 0 < b) with hbs | hbs
        · have r1 : b < r := by omega
          have r2 : r < -b := by omega
          rcases (by omega : r < 0 ∨ r = 0 ∨ 0 < r) with hr | hr | hr
          · have hm : modV a b = r + -b := by rw [modV_neg (by omega), mag_neg hbs, hrr]
            have cM := Lib.hid (fun w ht => mod_v s a b (r + -b) w ht e1 hm)
            have hs1 := hsg.1 (by omega)
            clear hsg q1 q2 hrr hq hm
            go_enter Tryd.func6, Tryd.ntmps6
            go_wp2_with (first | (go_at_call 9; refine (awake_any _ (by repeat (first | assumption | refine Tab.alloc ?_ _))).mono ?_; rintro e w14 ⟨rfl, hk14⟩; obtain ⟨hc14, hf14⟩ := bcell hk14.2; have ht14 := hk14.1; have hz14 := hk14.2.size; (try simp only [World.size_alloc] at hz14)) | (go_at_call 37; refine (cO.out _ (by repeat (first | assumption | refine Tab.alloc ?_ _))).mono ?_; rintro e w4 ⟨rfl, hk4⟩; obtain ⟨hc4, hf4⟩ := bcell hk4.2; have ht4 := hk4.1; have hz4 := hk4.2.size; (try simp only [World.size_alloc] at hz4)) | (go_at_call 39; refine (cM.out _ (by repeat (first | assumption | refine Tab.alloc ?_ _))).mono ?_; rintro e w5 ⟨rfl, hk5⟩; obtain ⟨hc5, hf5⟩ := bcell hk5.2; have ht5 := hk5.1; have hz5 := hk5.2.size; (try simp only [World.size_alloc] at hz5)) | (go_at_call 14; refine (Is_any _ _ _ (by repeat (first | assumption | refine Tab.alloc ?_ _))).mono ?_; rintro e w15 ⟨rfl, hk15⟩; obtain ⟨hc15, hf15⟩ := bcell hk15.2; have ht15 := hk15.1; have hz15 := hk15.2.size; (try simp only [World.size_alloc] at hz15)))
            go_returns
            exact ⟨by simp, (by repeat (first | assumption | exact Kept.refl ht | refine Kept.alloc ?_ _ _ | refine Kept.trans ?_ (by assumption)))⟩
          · have hm : modV a b = 0 := by rw [modV_pos (by omega), hrr, hr]
            have cM := Lib.hid (fun w ht => mod_v s a b 0 w ht e1 hm)
            clear hsg q1 q2 hrr hq hm
            go_enter Tryd.func6, Tryd.ntmps6
            go_wp2_with (first | (go_at_call 9; refine (awake_any _ (by repeat (first | assumption | refine Tab.alloc ?_ _))).mono ?_; rintro e w16 ⟨rfl, hk16⟩; obtain ⟨hc16, hf16⟩ := bcell hk16.2; have ht16 := hk16.1; have hz16 := hk16.2.size; (try simp only [World.size_alloc] at hz16)) | (go_at_call 37; refine (cO.out _ (by repeat (first | assumption | refine Tab.alloc ?_ _))).mono ?_; rintro e w4 ⟨rfl, hk4⟩; obtain ⟨hc4, hf4⟩ := bcell hk4.2; have ht4 := hk4.1; have hz4 := hk4.2.size; (try simp only [World.size_alloc] at hz4)) | (go_at_call 39; refine (cM.out _ (by repeat (first | assumption | refine Tab.alloc ?_ _))).mono ?_; rintro e w5 ⟨rfl, hk5⟩; obtain ⟨hc5, hf5⟩ := bcell hk5.2; have ht5 := hk5.1; have hz5 := hk5.2.size; (try simp only [World.size_alloc] at hz5)) | (go_at_call 14; refine (Is_any _ _ _ (by repeat (first | assumption | refine Tab.alloc ?_ _))).mono ?_; rintro e w17 ⟨rfl, hk17⟩; obtain ⟨hc17, hf17⟩ := bcell hk17.2; have ht17 := hk17.1; have hz17 := hk17.2.size; (try simp only [World.size_alloc] at hz17)))
            go_returns
            exact ⟨by simp, (by repeat (first | assumption | exact Kept.refl ht | refine Kept.alloc ?_ _ _ | refine Kept.trans ?_ (by assumption)))⟩
          · have hm : modV a b = r := by rw [modV_pos (by omega), hrr]
            have cM := Lib.hid (fun w ht => mod_v s a b r w ht e1 hm)
            have hs1 := hsg.2 (by omega)
            clear hsg q1 q2 hrr hq hm
            go_enter Tryd.func6, Tryd.ntmps6
            go_wp2_with (first | (go_at_call 9; refine (awake_any _ (by repeat (first | assumption | refine Tab.alloc ?_ _))).mono ?_; rintro e w18 ⟨rfl, hk18⟩; obtain ⟨hc18, hf18⟩ := bcell hk18.2; have ht18 := hk18.1; have hz18 := hk18.2.size; (try simp only [World.size_alloc] at hz18)) | (go_at_call 37; refine (cO.out _ (by repeat (first | assumption | refine Tab.alloc ?_ _))).mono ?_; rintro e w4 ⟨rfl, hk4⟩; obtain ⟨hc4, hf4⟩ := bcell hk4.2; have ht4 := hk4.1; have hz4 := hk4.2.size; (try simp only [World.size_alloc] at hz4)) | (go_at_call 39; refine (cM.out _ (by repeat (first | assumption | refine Tab.alloc ?_ _))).mono ?_; rintro e w5 ⟨rfl, hk5⟩; obtain ⟨hc5, hf5⟩ := bcell hk5.2; have ht5 := hk5.1; have hz5 := hk5.2.size; (try simp only [World.size_alloc] at hz5)) | (go_at_call 14; refine (Is_any _ _ _ (by repeat (first | assumption | refine Tab.alloc ?_ _))).mono ?_; rintro e w19 ⟨rfl, hk19⟩; obtain ⟨hc19, hf19⟩ := bcell hk19.2; have ht19 := hk19.1; have hz19 := hk19.2.size; (try simp only [World.size_alloc] at hz19)))
            go_returns
            exact ⟨by simp, (by repeat (first | assumption | exact Kept.refl ht | refine Kept.alloc ?_ _ _ | refine Kept.trans ?_ (by assumption)))⟩
        · have r1 : -b < r := by omega
          have r2 : r < b := by omega
          rcases (by omega : r < 0 ∨ r = 0 ∨ 0 < r) with hr | hr | hr
          · have hm : modV a b = r + b := by rw [modV_neg (by omega), mag_pos (by omega), hrr]
            have cM := Lib.hid (fun w ht => mod_v s a b (r + b) w ht e1 hm)
            have hs1 := hsg.1 (by omega)
            clear hsg q1 q2 hrr hq hm
            go_enter Tryd.func6, Tryd.ntmps6
            go_wp2_with (first | (go_at_call 9; refine (awake_any _ (by repeat (first | assumption | refine Tab.alloc ?_ _))).mono ?_; rintro e w20 ⟨rfl, hk20⟩; obtain ⟨hc20, hf20⟩ := bcell hk20.2; have ht20 := hk20.1; have hz20 := hk20.2.size; (try simp only [World.size_alloc] at hz20)) | (go_at_call 37; refine (cO.out _ (by repeat (first | assumption | refine Tab.alloc ?_ _))).mono ?_; rintro e w4 ⟨rfl, hk4⟩; obtain ⟨hc4, hf4⟩ := bcell hk4.2; have ht4 := hk4.1; have hz4 := hk4.2.size; (try simp only [World.size_alloc] at hz4)) | (go_at_call 39; refine (cM.out _ (by repeat (first | assumption | refine Tab.alloc ?_ _))).mono ?_; rintro e w5 ⟨rfl, hk5⟩; obtain ⟨hc5, hf5⟩ := bcell hk5.2; have ht5 := hk5.1; have hz5 := hk5.2.size; (try simp only [World.size_alloc] at hz5)) | (go_at_call 14; refine (Is_any _ _ _ (by repeat (first | assumption | refine Tab.alloc ?_ _))).mono ?_; rintro e w21 ⟨rfl, hk21⟩; obtain ⟨hc21, hf21⟩ := bcell hk21.2; have ht21 := hk21.1; have hz21 := hk21.2.size; (try simp only [World.size_alloc] at hz21)))
            go_returns
            exact ⟨by simp, (by repeat (first | assumption | exact Kept.refl ht | refine Kept.alloc ?_ _ _ | refine Kept.trans ?_ (by assumption)))⟩
          · have hm : modV a b = 0 := by rw [modV_pos (by omega), hrr, hr]
            have cM := Lib.hid (fun w ht => mod_v s a b 0 w ht e1 hm)
            clear hsg q1 q2 hrr hq hm
            go_enter Tryd.func6, Tryd.ntmps6
            go_wp2_with (first | (go_at_call 9; refine (awake_any _ (by repeat (first | assumption | refine Tab.alloc ?_ _))).mono ?_; rintro e w22 ⟨rfl, hk22⟩; obtain ⟨hc22, hf22⟩ := bcell hk22.2; have ht22 := hk22.1; have hz22 := hk22.2.size; (try simp only [World.size_alloc] at hz22)) | (go_at_call 37; refine (cO.out _ (by repeat (first | assumption | refine Tab.alloc ?_ _))).mono ?_; rintro e w4 ⟨rfl, hk4⟩; obtain ⟨hc4, hf4⟩ := bcell hk4.2; have ht4 := hk4.1; have hz4 := hk4.2.size; (try simp only [World.size_alloc] at hz4)) | (go_at_call 39; refine (cM.out _ (by repeat (first | assumption | refine Tab.alloc ?_ _))).mono ?_; rintro e w5 ⟨rfl, hk5⟩; obtain ⟨hc5, hf5⟩ := bcell hk5.2; have ht5 := hk5.1; have hz5 := hk5.2.size; (try simp only [World.size_alloc] at hz5)) | (go_at_call 14; refine (Is_any _ _ _ (by repeat (first | assumption | refine Tab.alloc ?_ _))).mono ?_; rintro e w23 ⟨rfl, hk23⟩; obtain ⟨hc23, hf23⟩ := bcell hk23.2; have ht23 := hk23.1; have hz23 := hk23.2.size; (try simp only [World.size_alloc] at hz23)))
            go_returns
            exact ⟨by simp, (by repeat (first | assumption | exact Kept.refl ht | refine Kept.alloc ?_ _ _ | refine Kept.trans ?_ (by assumption)))⟩
          · have hm : modV a b = r := by rw [modV_pos (by omega), hrr]
            have cM := Lib.hid (fun w ht => mod_v s a b r w ht e1 hm)
            have hs1 := hsg.2 (by omega)
            clear hsg q1 q2 hrr hq hm
            go_enter Tryd.func6, Tryd.ntmps6
            go_wp2_with (first | (go_at_call 9; refine (awake_any _ (by repeat (first | assumption | refine Tab.alloc ?_ _))).mono ?_; rintro e w24 ⟨rfl, hk24⟩; obtain ⟨hc24, hf24⟩ := bcell hk24.2; have ht24 := hk24.1; have hz24 := hk24.2.size; (try simp only [World.size_alloc] at hz24)) | (go_at_call 37; refine (cO.out _ (by repeat (first | assumption | refine Tab.alloc ?_ _))).mono ?_; rintro e w4 ⟨rfl, hk4⟩; obtain ⟨hc4, hf4⟩ := bcell hk4.2; have ht4 := hk4.1; have hz4 := hk4.2.size; (try simp only [World.size_alloc] at hz4)) | (go_at_call 39; refine (cM.out _ (by repeat (first | assumption | refine Tab.alloc ?_ _))).mono ?_; rintro e w5 ⟨rfl, hk5⟩; obtain ⟨hc5, hf5⟩ := bcell hk5.2; have ht5 := hk5.1; have hz5 := hk5.2.size; (try simp only [World.size_alloc] at hz5)) | (go_at_call 14; refine (Is_any _ _ _ (by repeat (first | assumption | refine Tab.alloc ?_ _))).mono ?_; rintro e w25 ⟨rfl, hk25⟩; obtain ⟨hc25, hf25⟩ := bcell hk25.2; have ht25 := hk25.1; have hz25 := hk25.2.size; (try simp only [World.size_alloc] at hz25)))
            go_returns
            exact ⟨by simp, (by repeat (first | assumption | exact Kept.refl ht | refine Kept.alloc ?_ _ _ | refine Kept.trans ?_ (by assumption)))⟩
    all_goals
      have e1 : ∀ r, d2 s a b r = (0, 11) := fun _ => d2_n hs (by simp [ha, hb])
      by_cases h0 : b = 0
      · subst h0
        go_enter Tryd.func6, Tryd.ntmps6
        go_wp2_with (first | (go_at_call 9; refine (awake_any _ (by repeat (first | assumption | refine Tab.alloc ?_ _))).mono ?_; rintro e w26 ⟨rfl, hk26⟩; obtain ⟨hc26, hf26⟩ := bcell hk26.2; have ht26 := hk26.1; have hz26 := hk26.2.size; (try simp only [World.size_alloc] at hz26)) | (go_at_call 37; refine (Over_any _ _ _ _ (by repeat (first | assumption | refine Tab.alloc ?_ _))).mono ?_; rintro e w27 ⟨rfl, hk27⟩; obtain ⟨hc27, hf27⟩ := bcell hk27.2; have ht27 := hk27.1; have hz27 := hk27.2.size; (try simp only [World.size_alloc] at hz27)) | (go_at_call 39; refine (Mod_any _ _ _ _ (by repeat (first | assumption | refine Tab.alloc ?_ _))).mono ?_; rintro e w28 ⟨rfl, hk28⟩; obtain ⟨hc28, hf28⟩ := bcell hk28.2; have ht28 := hk28.1; have hz28 := hk28.2.size; (try simp only [World.size_alloc] at hz28)) | (go_at_call 14; refine (Is_any _ _ _ (by repeat (first | assumption | refine Tab.alloc ?_ _))).mono ?_; rintro e w29 ⟨rfl, hk29⟩; obtain ⟨hc29, hf29⟩ := bcell hk29.2; have ht29 := hk29.1; have hz29 := hk29.2.size; (try simp only [World.size_alloc] at hz29)))
        go_returns
        exact ⟨rfl, (by repeat (first | assumption | exact Kept.refl ht | refine Kept.alloc ?_ _ _ | refine Kept.trans ?_ (by assumption)))⟩
      · have hb0 : (b == 0) = false := by simpa using h0
        go_enter Tryd.func6, Tryd.ntmps6
        go_wp2_with (first | (go_at_call 9; refine (awake_any _ (by repeat (first | assumption | refine Tab.alloc ?_ _))).mono ?_; rintro e w30 ⟨rfl, hk30⟩; obtain ⟨hc30, hf30⟩ := bcell hk30.2; have ht30 := hk30.1; have hz30 := hk30.2.size; (try simp only [World.size_alloc] at hz30)) | (go_at_call 37; refine (Over_any _ _ _ _ (by repeat (first | assumption | refine Tab.alloc ?_ _))).mono ?_; rintro e w31 ⟨rfl, hk31⟩; obtain ⟨hc31, hf31⟩ := bcell hk31.2; have ht31 := hk31.1; have hz31 := hk31.2.size; (try simp only [World.size_alloc] at hz31)) | (go_at_call 39; refine (Mod_any _ _ _ _ (by repeat (first | assumption | refine Tab.alloc ?_ _))).mono ?_; rintro e w32 ⟨rfl, hk32⟩; obtain ⟨hc32, hf32⟩ := bcell hk32.2; have ht32 := hk32.1; have hz32 := hk32.2.size; (try simp only [World.size_alloc] at hz32)) | (go_at_call 14; refine (Is_any _ _ _ (by repeat (first | assumption | refine Tab.alloc ?_ _))).mono ?_; rintro e w33 ⟨rfl, hk33⟩; obtain ⟨hc33, hf33⟩ := bcell hk33.2; have ht33 := hk33.1; have hz33 := hk33.2.size; (try simp only [World.size_alloc] at hz33)))
        go_returns
        exact ⟨rfl, (by repeat (first | assumption | exact Kept.refl ht | refine Kept.alloc ?_ _ _ | refine Kept.trans ?_ (by assumption)))⟩
end Go.Proofs.YtkehmdocjjadnaaDoor
