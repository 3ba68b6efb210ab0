/- The walk of IntsBits: it returns true for every size and numbers. Condition: the table holds what its initialiser lays. -/
import Derived.Test.YtkehmdocjjadnaaDoorAwake
import Derived.Test.YtkehmdocjjadnaaDoorBitL
namespace Go.Proofs.YtkehmdocjjadnaaDoor
open Go.ChangeShapes Go.WideShapes Go.ChangeAt Go.RowKit

theorem not_v (s a r : Int) (w : World) (ht : Tab w) (h : w1 s a (mw s - a) = (r, 0)) :
    Calls Tryd.prog 45 #[.int .i64 s, .int .i64 a] w fun x w' => x = .returned (.tuple #[.int .i64 r, .int .i64 0]) ∧ Kept w w' := by
  have h' := Not_any s a w ht
  rw [h] at h'; exact h'
theorem and_v (s a b r : Int) (w : World) (ht : Tab w) (h : w2 s a b (andV a b) = (r, 0)) :
    Calls Tryd.prog 47 #[.int .i64 s, .int .i64 a, .int .i64 b] w fun x w' => x = .returned (.tuple #[.int .i64 r, .int .i64 0]) ∧ Kept w w' := by
  have h' := And_any s a b w ht
  rw [h] at h'; exact h'
theorem or_v (s a b r : Int) (w : World) (ht : Tab w) (h : w2 s a b (orV a b) = (r, 0)) :
    Calls Tryd.prog 49 #[.int .i64 s, .int .i64 a, .int .i64 b] w fun x w' => x = .returned (.tuple #[.int .i64 r, .int .i64 0]) ∧ Kept w w' := by
  have h' := Or_any s a b w ht
  rw [h] at h'; exact h'
theorem shift_v (s a n r : Int) (w : World) (ht : Tab w) (h : w1 s a (shV s a n) = (r, 0)) :
    Calls Tryd.prog 51 #[.int .i64 s, .int .i64 a, .int .i64 n] w fun x w' => x = .returned (.tuple #[.int .i64 r, .int .i64 0]) ∧ Kept w w' := by
  have h' := Shift_any s a n w ht
  rw [h] at h'; exact h'
theorem elem_v (s i a : Int) (r : Bool) (w : World) (ht : Tab w) (h : el s i a = (r, 0)) :
    Calls Tryd.prog 43 #[.int .i64 s, .int .i64 i, .int .i64 a] w fun x w' => x = .returned (.tuple #[.bool r, .int .i64 0]) ∧ Kept w w' := by
  have h' := Elem_any s i a w ht
  rw [h] at h'; exact h'
theorem width_v (s W : Int) (w : World) (ht : Tab w) (hs : isSz s = true) (h : wd s = W) :
    Calls Tryd.prog 12 #[.int .i64 s] w fun x w' => x = .returned (.tuple #[.int .i64 W, .int .i64 0]) ∧ Kept w w' := by
  have h' := Width_any s w ht
  rw [h, ck_t hs] at h'; exact h'
set_option maxRecDepth 100000 in
set_option maxHeartbeats 8000000 in
theorem bits_walk (s v u n m a r : Int) (W : Nat) (w : World) (ht : Tab w) (hW0 : 1 ≤ W) (hW : W ≤ 60) (hv : isW s v = true) (hu : isW s u = true)
    (cW : (∀ w, Tab w → Calls Tryd.prog 12 #[.int .i64 s] w fun x w' => x = .returned (.tuple #[.int .i64 W, .int .i64 0]) ∧ Kept w w')) (cNv : (∀ w, Tab w → Calls Tryd.prog 45 #[.int .i64 s, .int .i64 v] w fun x w' => x = .returned (.tuple #[.int .i64 n, .int .i64 0]) ∧ Kept w w')) (cNu : (∀ w, Tab w → Calls Tryd.prog 45 #[.int .i64 s, .int .i64 u] w fun x w' => x = .returned (.tuple #[.int .i64 m, .int .i64 0]) ∧ Kept w w')) (cNN : (∀ w, Tab w → Calls Tryd.prog 45 #[.int .i64 s, .int .i64 n] w fun x w' => x = .returned (.tuple #[.int .i64 v, .int .i64 0]) ∧ Kept w w')) (cNA : (∀ w, Tab w → Calls Tryd.prog 45 #[.int .i64 s, .int .i64 a] w fun x w' => x = .returned (.tuple #[.int .i64 r, .int .i64 0]) ∧ Kept w w'))
    (cA : (∀ w, Tab w → Calls Tryd.prog 47 #[.int .i64 s, .int .i64 v, .int .i64 u] w fun x w' => x = .returned (.tuple #[.int .i64 a, .int .i64 0]) ∧ Kept w w')) (cR : (∀ w, Tab w → Calls Tryd.prog 49 #[.int .i64 s, .int .i64 n, .int .i64 m] w fun x w' => x = .returned (.tuple #[.int .i64 r, .int .i64 0]) ∧ Kept w w'))
    (cL : ∀ k : Nat, k < W → ∃ (b1 b2 : Bool) (T B G D : Int), (∀ w, Tab w → Calls Tryd.prog 43 #[.int .i64 s, .int .i64 ((k : Int) + 1), .int .i64 v] w fun x w' => x = .returned (.tuple #[.bool b1, .int .i64 0]) ∧ Kept w w') ∧ (∀ w, Tab w → Calls Tryd.prog 43 #[.int .i64 s, .int .i64 ((k : Int) + 1), .int .i64 u] w fun x w' => x = .returned (.tuple #[.bool b2, .int .i64 0]) ∧ Kept w w') ∧ (∀ w, Tab w → Calls Tryd.prog 43 #[.int .i64 s, .int .i64 ((k : Int) + 1), .int .i64 a] w fun x w' => x = .returned (.tuple #[.bool (b1 && b2), .int .i64 0]) ∧ Kept w w') ∧
      (∀ w, Tab w → Calls Tryd.prog 51 #[.int .i64 s, .int .i64 v, .int .i64 ((k : Int) + 1)] w fun x w' => x = .returned (.tuple #[.int .i64 T, .int .i64 0]) ∧ Kept w w') ∧ (∀ w, Tab w → Calls Tryd.prog 51 #[.int .i64 s, .int .i64 T, .int .i64 (-((k : Int) + 1))] w fun x w' => x = .returned (.tuple #[.int .i64 B, .int .i64 0]) ∧ Kept w w') ∧ (∀ w, Tab w → Calls Tryd.prog 51 #[.int .i64 s, .int .i64 v, .int .i64 ((k : Int) + 1 - W)] w fun x w' => x = .returned (.tuple #[.int .i64 G, .int .i64 0]) ∧ Kept w w') ∧ (∀ w, Tab w → Calls Tryd.prog 51 #[.int .i64 s, .int .i64 G, .int .i64 ((W : Int) - ((k : Int) + 1))] w fun x w' => x = .returned (.tuple #[.int .i64 D, .int .i64 0]) ∧ Kept w w') ∧ (∀ w, Tab w → Calls Tryd.prog 49 #[.int .i64 s, .int .i64 B, .int .i64 D] w fun x w' => x = .returned (.tuple #[.int .i64 v, .int .i64 0]) ∧ Kept w w')) :
    Calls Tryd.prog 8 #[.int .i64 s, .int .i64 v, .int .i64 u] w fun e w' => e = .returned (.bool true) ∧ Kept w w' := by
  have hlt := ht.lt
  have cNv := Lib.hid cNv
  have cNu := Lib.hid cNu
  have cNN := Lib.hid cNN
  have cNA := Lib.hid cNA
  have cA := Lib.hid cA
  have cR := Lib.hid cR
  have cW := Lib.hid cW
  have cL := Lib.hid cL
  go_enter Tryd.func8, Tryd.ntmps8
  go_wp2_with (first | (go_at_call 9; refine (awake_any _ (by repeat (first | assumption | refine Tab.alloc ?_ _))).mono ?_; rintro e w4 ⟨rfl, hk4⟩; obtain ⟨hc4, hf4⟩ := bcell hk4.2; have ht4 := hk4.1; have hz4 := hk4.2.size; (try simp only [World.size_alloc] at hz4)) | (go_at_call 16; refine (IsWord_any _ _ _ (by repeat (first | assumption | refine Tab.alloc ?_ _))).mono ?_; rintro e w5 ⟨rfl, hk5⟩; obtain ⟨hc5, hf5⟩ := bcell hk5.2; have ht5 := hk5.1; have hz5 := hk5.2.size; (try simp only [World.size_alloc] at hz5)) | (go_at_call 12; (with_reducible refine (cW.out _ (by repeat (first | assumption | refine Tab.alloc ?_ _))).mono ?_); rintro e w6 ⟨rfl, hk6⟩; obtain ⟨hc6, hf6⟩ := bcell hk6.2; have ht6 := hk6.1; have hz6 := hk6.2.size; (try simp only [World.size_alloc] at hz6)) | (go_at_call 45; (with_reducible refine (cNv.out _ (by repeat (first | assumption | refine Tab.alloc ?_ _))).mono ?_); rintro e w7 ⟨rfl, hk7⟩; obtain ⟨hc7, hf7⟩ := bcell hk7.2; have ht7 := hk7.1; have hz7 := hk7.2.size; (try simp only [World.size_alloc] at hz7)) | (go_at_call 45; (with_reducible refine (cNu.out _ (by repeat (first | assumption | refine Tab.alloc ?_ _))).mono ?_); rintro e w8 ⟨rfl, hk8⟩; obtain ⟨hc8, hf8⟩ := bcell hk8.2; have ht8 := hk8.1; have hz8 := hk8.2.size; (try simp only [World.size_alloc] at hz8)) | (go_at_call 45; (with_reducible refine (cNN.out _ (by repeat (first | assumption | refine Tab.alloc ?_ _))).mono ?_); rintro e w9 ⟨rfl, hk9⟩; obtain ⟨hc9, hf9⟩ := bcell hk9.2; have ht9 := hk9.1; have hz9 := hk9.2.size; (try simp only [World.size_alloc] at hz9)) | (go_at_call 45; (with_reducible refine (cNA.out _ (by repeat (first | assumption | refine Tab.alloc ?_ _))).mono ?_); rintro e w10 ⟨rfl, hk10⟩; obtain ⟨hc10, hf10⟩ := bcell hk10.2; have ht10 := hk10.1; have hz10 := hk10.2.size; (try simp only [World.size_alloc] at hz10)) | (go_at_call 47; (with_reducible refine (cA.out _ (by repeat (first | assumption | refine Tab.alloc ?_ _))).mono ?_); rintro e w11 ⟨rfl, hk11⟩; obtain ⟨hc11, hf11⟩ := bcell hk11.2; have ht11 := hk11.1; have hz11 := hk11.2.size; (try simp only [World.size_alloc] at hz11)) | (go_at_call 49; (with_reducible refine (cR.out _ (by repeat (first | assumption | refine Tab.alloc ?_ _))).mono ?_); rintro e w12 ⟨rfl, hk12⟩; obtain ⟨hc12, hf12⟩ := bcell hk12.2; have ht12 := hk12.1; have hz12 := hk12.2.size; (try simp only [World.size_alloc] at hz12)) | (go_at_call 20; go_in) | (go_at_call 65; (with_reducible refine (same_at _ _ _ _ _).mono ?_); rintro e w' ⟨rfl, rfl⟩))
  clear cNv cNu cNN cNA cA cR cW
  go_loopw [19] (fun i wr => ∃ k : Nat, k ≤ W ∧ i = .int .i64 ((k : Int) + 1) ∧ Kept w wr) (fun i _ => (W + 1 - intOf i).toNat)
  case atStart => exact ⟨0, Nat.zero_le _, rfl, (by repeat (first | assumption | exact Kept.refl ht | refine Kept.alloc ?_ _ _ | refine Kept.trans ?_ (by assumption)))⟩
  case round =>
    obtain ⟨k, hk, rfl, hkw⟩ := hrel
    have htw := hkw.1
    by_cases hlt2 : k < W
    · obtain ⟨b1, b2, T, B, G, D, cE1, cE2, cE3, cT, cB, cK, cG, cO⟩ := cL.out k hlt2
      have cE1 := Lib.hid cE1
      have cE2 := Lib.hid cE2
      have cE3 := Lib.hid cE3
      have cT := Lib.hid cT
      have cB := Lib.hid cB
      have cK := Lib.hid cK
      have cG := Lib.hid cG
      have cO := Lib.hid cO
      clear cL
      go_wp2_with (first | (go_at_call 43; (with_reducible refine (cE1.out _ (by repeat (first | assumption | refine Tab.alloc ?_ _))).mono ?_); rintro e w13 ⟨rfl, hk13⟩; obtain ⟨hc13, hf13⟩ := bcell hk13.2; have ht13 := hk13.1; have hz13 := hk13.2.size; (try simp only [World.size_alloc] at hz13)) | (go_at_call 43; (with_reducible refine (cE2.out _ (by repeat (first | assumption | refine Tab.alloc ?_ _))).mono ?_); rintro e w14 ⟨rfl, hk14⟩; obtain ⟨hc14, hf14⟩ := bcell hk14.2; have ht14 := hk14.1; have hz14 := hk14.2.size; (try simp only [World.size_alloc] at hz14)) | (go_at_call 43; (with_reducible refine (cE3.out _ (by repeat (first | assumption | refine Tab.alloc ?_ _))).mono ?_); rintro e w15 ⟨rfl, hk15⟩; obtain ⟨hc15, hf15⟩ := bcell hk15.2; have ht15 := hk15.1; have hz15 := hk15.2.size; (try simp only [World.size_alloc] at hz15)) | (go_at_call 51; (with_reducible refine (cT.out _ (by repeat (first | assumption | refine Tab.alloc ?_ _))).mono ?_); rintro e w16 ⟨rfl, hk16⟩; obtain ⟨hc16, hf16⟩ := bcell hk16.2; have ht16 := hk16.1; have hz16 := hk16.2.size; (try simp only [World.size_alloc] at hz16)) | (go_at_call 51; (with_reducible refine (cB.out _ (by repeat (first | assumption | refine Tab.alloc ?_ _))).mono ?_); rintro e w17 ⟨rfl, hk17⟩; obtain ⟨hc17, hf17⟩ := bcell hk17.2; have ht17 := hk17.1; have hz17 := hk17.2.size; (try simp only [World.size_alloc] at hz17)) | (go_at_call 51; (with_reducible refine (cK.out _ (by repeat (first | assumption | refine Tab.alloc ?_ _))).mono ?_); rintro e w18 ⟨rfl, hk18⟩; obtain ⟨hc18, hf18⟩ := bcell hk18.2; have ht18 := hk18.1; have hz18 := hk18.2.size; (try simp only [World.size_alloc] at hz18)) | (go_at_call 51; (with_reducible refine (cG.out _ (by repeat (first | assumption | refine Tab.alloc ?_ _))).mono ?_); rintro e w19 ⟨rfl, hk19⟩; obtain ⟨hc19, hf19⟩ := bcell hk19.2; have ht19 := hk19.1; have hz19 := hk19.2.size; (try simp only [World.size_alloc] at hz19)) | (go_at_call 49; (with_reducible refine (cO.out _ (by repeat (first | assumption | refine Tab.alloc ?_ _))).mono ?_); rintro e w20 ⟨rfl, hk20⟩; obtain ⟨hc20, hf20⟩ := bcell hk20.2; have ht20 := hk20.1; have hz20 := hk20.2.size; (try simp only [World.size_alloc] at hz20)) | (go_at_call 20; go_in) | (go_at_call 65; (with_reducible refine (same_at _ _ _ _ _).mono ?_); rintro e w' ⟨rfl, rfl⟩))
      all_goals
        refine ⟨⟨k + 1, by omega, by go_num, (by repeat (first | assumption | exact Kept.refl ht | refine Kept.alloc ?_ _ _ | refine Kept.trans ?_ (by assumption)))⟩, by simp [intOf]; omega⟩
    · obtain rfl : k = W := by omega
      go_wp2
      go_returns
      exact ⟨rfl, hkw⟩
theorem el_v {s i v : Int} {W : Nat} {b : Bool} (hs : isSz s = true) (hW : wd s = W) (hv : isW s v = true) (h1 : 1 ≤ i) (h2 : i ≤ W) (hb : (bt W i v == 1) = b) : el s i v = (b, 0) := by
  rw [el_in hs hv (by rw [hW]; omega), hW, hb]
theorem w1_v {s v r : Int} (hs : isSz s = true) (hv : isW s v = true) : w1 s v r = (r, 0) := by rw [w1_y hs, hv]; rfl
theorem w2_v {s v u r : Int} (hs : isSz s = true) (hv : isW s v = true) (hu : isW s u = true) : w2 s v u r = (r, 0) := by rw [w2_y hs, hv, hu]; rfl
theorem shV_nat {s n : Int} {W x : Nat} (hW : wd s = W) : shV s x n = (shN W x n : Int) := by unfold shV; rw [hW, Int.toNat_natCast, Int.toNat_natCast]
set_option maxRecDepth 100000 in
set_option maxHeartbeats 2000000 in
theorem bits_bad (s v u e : Int) (w : World) (ht : Tab w) (hb : (isW s v && isW s u) = false) (he : (e == 0) = false)
    (cA : ∀ w, Tab w → Calls Tryd.prog 47 #[.int .i64 s, .int .i64 v, .int .i64 u] w fun x w' => x = .returned (.tuple #[.int .i64 0, .int .i64 e]) ∧ Kept w w') :
    Calls Tryd.prog 8 #[.int .i64 s, .int .i64 v, .int .i64 u] w fun e w' => e = .returned (.bool true) ∧ Kept w w' := by
  have hlt := ht.lt
  have cA := Lib.hid cA
  cases hv : isW s v <;> cases hu : isW s u
  · clear hb
    go_enter Tryd.func8, Tryd.ntmps8
    go_wp2_with (first | (go_at_call 9; refine (awake_any _ (by repeat (first | assumption | refine Tab.alloc ?_ _))).mono ?_; rintro e w21 ⟨rfl, hk21⟩; obtain ⟨hc21, hf21⟩ := bcell hk21.2; have ht21 := hk21.1; have hz21 := hk21.2.size; (try simp only [World.size_alloc] at hz21)) | (go_at_call 16; refine (IsWord_any _ _ _ (by repeat (first | assumption | refine Tab.alloc ?_ _))).mono ?_; rintro e w22 ⟨rfl, hk22⟩; obtain ⟨hc22, hf22⟩ := bcell hk22.2; have ht22 := hk22.1; have hz22 := hk22.2.size; (try simp only [World.size_alloc] at hz22)) | (go_at_call 47; (with_reducible refine (cA.out _ (by repeat (first | assumption | refine Tab.alloc ?_ _))).mono ?_); rintro e w23 ⟨rfl, hk23⟩; obtain ⟨hc23, hf23⟩ := bcell hk23.2; have ht23 := hk23.1; have hz23 := hk23.2.size; (try simp only [World.size_alloc] at hz23)))
    go_returns
    exact ⟨by simpa using he, (by repeat (first | assumption | exact Kept.refl ht | refine Kept.alloc ?_ _ _ | refine Kept.trans ?_ (by assumption)))⟩
  · clear hb
    go_enter Tryd.func8, Tryd.ntmps8
    go_wp2_with (first | (go_at_call 9; refine (awake_any _ (by repeat (first | assumption | refine Tab.alloc ?_ _))).mono ?_; rintro e w21 ⟨rfl, hk21⟩; obtain ⟨hc21, hf21⟩ := bcell hk21.2; have ht21 := hk21.1; have hz21 := hk21.2.size; (try simp only [World.size_alloc] at hz21)) | (go_at_call 16; refine (IsWord_any _ _ _ (by repeat (first | assumption | refine Tab.alloc ?_ _))).mono ?_; rintro e w22 ⟨rfl, hk22⟩; obtain ⟨hc22, hf22⟩ := bcell hk22.2; have ht22 := hk22.1; have hz22 := hk22.2.size; (try simp only [World.size_alloc] at hz22)) | (go_at_call 47; (with_reducible refine (cA.out _ (by repeat (first | assumption | refine Tab.alloc ?_ _))).mono ?_); rintro e w23 ⟨rfl, hk23⟩; obtain ⟨hc23, hf23⟩ := bcell hk23.2; have ht23 := hk23.1; have hz23 := hk23.2.size; (try simp only [World.size_alloc] at hz23)))
    go_returns
    exact ⟨by simpa using he, (by repeat (first | assumption | exact Kept.refl ht | refine Kept.alloc ?_ _ _ | refine Kept.trans ?_ (by assumption)))⟩
  · clear hb
    go_enter Tryd.func8, Tryd.ntmps8
    go_wp2_with (first | (go_at_call 9; refine (awake_any _ (by repeat (first | assumption | refine Tab.alloc ?_ _))).mono ?_; rintro e w21 ⟨rfl, hk21⟩; obtain ⟨hc21, hf21⟩ := bcell hk21.2; have ht21 := hk21.1; have hz21 := hk21.2.size; (try simp only [World.size_alloc] at hz21)) | (go_at_call 16; refine (IsWord_any _ _ _ (by repeat (first | assumption | refine Tab.alloc ?_ _))).mono ?_; rintro e w22 ⟨rfl, hk22⟩; obtain ⟨hc22, hf22⟩ := bcell hk22.2; have ht22 := hk22.1; have hz22 := hk22.2.size; (try simp only [World.size_alloc] at hz22)) | (go_at_call 47; (with_reducible refine (cA.out _ (by repeat (first | assumption | refine Tab.alloc ?_ _))).mono ?_); rintro e w23 ⟨rfl, hk23⟩; obtain ⟨hc23, hf23⟩ := bcell hk23.2; have ht23 := hk23.1; have hz23 := hk23.2.size; (try simp only [World.size_alloc] at hz23)))
    go_returns
    exact ⟨by simpa using he, (by repeat (first | assumption | exact Kept.refl ht | refine Kept.alloc ?_ _ _ | refine Kept.trans ?_ (by assumption)))⟩
  · rw [hv, hu] at hb; cases hb
theorem IntsBits_walk (s v u : Int) (w : World) (ht : Tab w) : Calls Tryd.prog 8 #[.int .i64 s, .int .i64 v, .int .i64 u] w fun e w' => e = .returned (.bool true) ∧ Kept w w' := by
  cases hs : isSz s
  · refine bits_bad s v u 1 w ht ?_ rfl (fun w ht => ?_)
    · obtain ⟨h1, h2, h3⟩ := isSz_not hs
      have : isW s v = false := by simp [isW, h1, h2, h3]
      rw [this]; rfl
    · have h := And_any s v u w ht
      rw [w2_no hs] at h; exact h
  · cases hb : (isW s v && isW s u)
    · refine bits_bad s v u 11 w ht hb rfl (fun w ht => ?_)
      have h := And_any s v u w ht
      rw [w2_y hs, hb] at h; exact h
    · obtain ⟨hv, hu⟩ := Bool.and_eq_true_iff.1 hb
      obtain ⟨W, hW, hm, W1, W2⟩ := size_width hs
      obtain ⟨x, rfl⟩ := Int.eq_ofNat_of_zero_le ((isW_iff hs).1 hv).1
      obtain ⟨y, rfl⟩ := Int.eq_ofNat_of_zero_le ((isW_iff hs).1 hu).1
      have hx := (isW_nat hs hm).1 hv
      have hy := (isW_nat hs hm).1 hu
      have isn : ∀ z : Nat, z < 2 ^ W → isW s (z : Int) = true := fun z hz => (isW_nat hs hm).2 hz
      have hxy : x &&& y < 2 ^ W := Nat.and_lt_two_pow _ hy
      have hdm := demorgan hx hy
      have hnot : ∀ z : Nat, z < 2 ^ W → w1 s (z : Int) (mw s - z) = (((2 ^ W - 1 - z : Nat) : Int), 0) := by
        intro z hz
        rw [w1_v hs (isn z hz), hm]; congr 1; omega
      have hnn : w1 s ((2 ^ W - 1 - x : Nat) : Int) (mw s - ((2 ^ W - 1 - x : Nat) : Int)) = ((x : Int), 0) := by
        rw [hnot _ (by omega)]; congr 1; omega
      refine bits_walk s x y ((2 ^ W - 1 - x : Nat) : Int) ((2 ^ W - 1 - y : Nat) : Int) ((x &&& y : Nat) : Int) ((2 ^ W - 1 - (x &&& y) : Nat) : Int) W w ht W1 W2 hv hu
        (fun w ht => width_v s W w ht hs hW) (fun w ht => not_v s x _ w ht (hnot x hx)) (fun w ht => not_v s y _ w ht (hnot y hy)) (fun w ht => not_v s _ x w ht hnn) (fun w ht => not_v s _ _ w ht (hnot _ hxy))
        (fun w ht => and_v s x y _ w ht (by rw [w2_v hs hv hu]; rfl)) (fun w ht => or_v s _ _ _ w ht (by rw [w2_v hs (isn _ (by omega)) (isn _ (by omega)), ← hdm]; rfl)) ?_
      intro k hk
      have hi : ((k : Int) + 1) = ((k + 1 : Nat) : Int) := by omega
      have hT : shN W x ((k + 1 : Nat) : Int) < 2 ^ W := shN_lt hx
      have hB : shN W (shN W x ((k + 1 : Nat) : Int)) (-((k + 1 : Nat) : Int)) < 2 ^ W := shN_lt hT
      have hG : shN W x (((k + 1 : Nat) : Int) - W) < 2 ^ W := shN_lt hx
      have hD : shN W (shN W x (((k + 1 : Nat) : Int) - W)) ((W : Int) - ((k + 1 : Nat) : Int)) < 2 ^ W := shN_lt hG
      have hback := there_and_back hx (show 1 ≤ k + 1 by omega) (show k + 1 ≤ W by omega)
      refine ⟨(bt W ((k + 1 : Nat) : Int) x == 1), (bt W ((k + 1 : Nat) : Int) y == 1), (shN W x ((k + 1 : Nat) : Int) : Int), (shN W (shN W x ((k + 1 : Nat) : Int)) (-((k + 1 : Nat) : Int)) : Int), (shN W x (((k + 1 : Nat) : Int) - W) : Int), (shN W (shN W x (((k + 1 : Nat) : Int) - W)) ((W : Int) - ((k + 1 : Nat) : Int)) : Int), ?_⟩
      rw [hi]
      exact ⟨fun w ht => elem_v s _ _ _ w ht (el_v hs hW hv (by omega) (by omega) rfl), fun w ht => elem_v s _ _ _ w ht (el_v hs hW hu (by omega) (by omega) rfl),
        fun w ht => elem_v s _ _ _ w ht (el_v hs hW (isn _ hxy) (by omega) (by omega) (bt_and (by omega) (by omega))),
        fun w ht => shift_v s _ _ _ w ht (by rw [w1_v hs hv, shV_nat hW]), fun w ht => shift_v s _ _ _ w ht (by rw [w1_v hs (isn _ hT), shV_nat hW]),
        fun w ht => shift_v s _ _ _ w ht (by rw [w1_v hs hv, shV_nat hW]), fun w ht => shift_v s _ _ _ w ht (by rw [w1_v hs (isn _ hG), shV_nat hW]),
        fun w ht => or_v s _ _ _ w ht (by rw [w2_v hs (isn _ hB) (isn _ hD)]; unfold orV; rw [Int.toNat_natCast, Int.toNat_natCast, hback])⟩
end Go.Proofs.YtkehmdocjjadnaaDoor
