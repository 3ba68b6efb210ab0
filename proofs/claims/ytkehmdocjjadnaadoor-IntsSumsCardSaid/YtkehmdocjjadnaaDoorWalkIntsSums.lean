/- The walk of IntsSums: it returns true for every size and numbers. Condition: the table holds what its initialiser lays. -/
import Derived.Test.YtkehmdocjjadnaaDoorAwake
namespace Go.Proofs.YtkehmdocjjadnaaDoor
open Go.ChangeShapes Go.WideShapes Go.ChangeAt Go.RowKit

theorem same_kept (a c : Int) (T U : TypeId) (w w2 : World) (hk : Kept ((w.alloc (.cells #[.int .i64 a] T)).alloc (.cells #[.int .i64 c] U)) w2) :
    Calls Tryd.prog 65 #[.int .i64 a, .int .i64 c, .pointer (some ⟨w.heap.size, 0, none⟩), .pointer (some ⟨w.heap.size + 1, 0, none⟩)] w2 fun e w' => e = .returned (.bool true) ∧ w2 = w' :=
  same_any a c _ _ _ (by rw [(bcell hk.2).1 _ _ (by simp; omega)]; simp [go_sem]) (by rw [(bcell hk.2).1 _ _ (by simp)]; simp [go_sem])
theorem u2_comm (s a b r : Int) : u2 s b a r = u2 s a b r := by unfold u2; rw [Bool.and_comm]
theorem pw_part {s a m n : Int} (hs : isSz s = true) (ha : isI s a = true) (h0 : 0 ≤ m) (hmn : m ≤ n) (hf : isI s (pw a n) = true) : isI s (pw a m) = true := by
  by_cases h1 : mag a ≤ 1
  · exact unit_fits hs ha h1 h0
  · obtain ⟨k, rfl⟩ := Int.eq_ofNat_of_zero_le h0
    obtain ⟨l, rfl⟩ := Int.eq_ofNat_of_zero_le (show 0 ≤ n by omega)
    cases hm : isI s (pw a k)
    · rw [pw_big hs (by omega) (show k ≤ l by omega) hm] at hf; cases hf
    · rfl
theorem pw_mul {a m n : Int} (hm : 0 ≤ m) (hn : 0 ≤ n) : pw a m * pw a n = pw a (m + n) := by
  unfold pw; rw [← Int.pow_add, Int.toNat_add hm hn]
theorem small_fits {s b : Int} (hs : isSz s = true) (h0 : 0 ≤ b) (h1 : b ≤ 70) : isI s b = true := by
  rw [isI_iff hs]
  rcases (of_decide_eq_true hs : s = -1 ∨ s = 0 ∨ s = 1) with rfl | rfl | rfl <;> simp [mx] <;> omega
theorem pow_v (s a n p e : Int) (w : World) (ht : Tab w) (lo : -9223372036854775808 ≤ n) (hi : n ≤ 9223372036854775807) (h : powR s a n = (p, e)) :
    Calls Tryd.prog 41 #[.int .i64 s, .int .i64 a, .int .i64 n] w fun x w' => x = .returned (.tuple #[.int .i64 p, .int .i64 e]) ∧ Kept w w' := by
  have h' := Pow_any s a n w ht lo hi
  rw [h] at h'; exact h'
theorem mul_v (s a b r p : Int) (w : World) (ht : Tab w) (hr : a * b = r) (h : u2 s a b r = (p, 0)) :
    Calls Tryd.prog 35 #[.int .i64 s, .int .i64 a, .int .i64 b] w fun x w' => x = .returned (.tuple #[.int .i64 p, .int .i64 0]) ∧ Kept w w' := by
  have h' := Mul_any s a b w ht
  rw [hr, h] at h'; exact h'
theorem add_v (s a b p e : Int) (w : World) (ht : Tab w) (h : u2 s a b (a + b) = (p, e)) :
    Calls Tryd.prog 31 #[.int .i64 s, .int .i64 a, .int .i64 b] w fun x w' => x = .returned (.tuple #[.int .i64 p, .int .i64 e]) ∧ Kept w w' := by
  have h' := Add_any s a b w ht
  rw [h] at h'; exact h'
theorem sub_v (s a b p : Int) (w : World) (ht : Tab w) (h : u2 s a b (a - b) = (p, 0)) :
    Calls Tryd.prog 33 #[.int .i64 s, .int .i64 a, .int .i64 b] w fun x w' => x = .returned (.tuple #[.int .i64 p, .int .i64 0]) ∧ Kept w w' := by
  have h' := Sub_any s a b w ht
  rw [h] at h'; exact h'
theorem mulp_v (s a b p e : Int) (w : World) (ht : Tab w) (h : u2 s a b (a * b) = (p, e)) :
    Calls Tryd.prog 35 #[.int .i64 s, .int .i64 a, .int .i64 b] w fun x w' => x = .returned (.tuple #[.int .i64 p, .int .i64 e]) ∧ Kept w w' := by
  have h' := Mul_any s a b w ht
  rw [h] at h'; exact h'
set_option maxRecDepth 100000 in
set_option maxHeartbeats 4000000 in
theorem neg0 (s a b : Int) (w : World) (ht : Tab w) (p1 e1 p2 e2 : Int) (h1 : u2 s a b (a + b) = (p1, e1)) (h2 : u2 s a b (a * b) = (p2, e2)) (he : (e1 == 0) = false) (hn : b < 0) :
    Calls Tryd.prog 7 #[.int .i64 s, .int .i64 a, .int .i64 b] w fun e w' => e = .returned (.bool true) ∧ Kept w w' := by
  have hlt := ht.lt
  have cA := Lib.hid (fun w ht => add_v s a b p1 e1 w ht h1)
  have cB := Lib.hid (fun w ht => add_v s b a p1 e1 w ht (by rw [u2_comm, Int.add_comm]; exact h1))
  have cM := Lib.hid (fun w ht => mulp_v s a b p2 e2 w ht h2)
  have cN := Lib.hid (fun w ht => mulp_v s b a p2 e2 w ht (by rw [u2_comm, Int.mul_comm]; exact h2))
  clear h2
  clear h1
  go_enter Tryd.func7, Tryd.ntmps7
  go_wp2_with (first | (go_at_call 9; refine (awake_any _ (by repeat (first | assumption | refine Tab.alloc ?_ _))).mono ?_; rintro e w5 ⟨rfl, hk5⟩; obtain ⟨hc5, hf5⟩ := bcell hk5.2; have ht5 := hk5.1; have hz5 := hk5.2.size; (try simp only [World.size_alloc] at hz5)) | (go_at_call 31; (with_reducible refine (cA.out _ (by repeat (first | assumption | refine Tab.alloc ?_ _))).mono ?_); rintro e w6 ⟨rfl, hk6⟩; obtain ⟨hc6, hf6⟩ := bcell hk6.2; have ht6 := hk6.1; have hz6 := hk6.2.size; (try simp only [World.size_alloc] at hz6)) | (go_at_call 31; (with_reducible refine (cB.out _ (by repeat (first | assumption | refine Tab.alloc ?_ _))).mono ?_); rintro e w7 ⟨rfl, hk7⟩; obtain ⟨hc7, hf7⟩ := bcell hk7.2; have ht7 := hk7.1; have hz7 := hk7.2.size; (try simp only [World.size_alloc] at hz7)) | (go_at_call 35; (with_reducible refine (cM.out _ (by repeat (first | assumption | refine Tab.alloc ?_ _))).mono ?_); rintro e w8 ⟨rfl, hk8⟩; obtain ⟨hc8, hf8⟩ := bcell hk8.2; have ht8 := hk8.1; have hz8 := hk8.2.size; (try simp only [World.size_alloc] at hz8)) | (go_at_call 35; (with_reducible refine (cN.out _ (by repeat (first | assumption | refine Tab.alloc ?_ _))).mono ?_); rintro e w9 ⟨rfl, hk9⟩; obtain ⟨hc9, hf9⟩ := bcell hk9.2; have ht9 := hk9.1; have hz9 := hk9.2.size; (try simp only [World.size_alloc] at hz9)) | (go_at_call 20; go_in) | (go_at_call 65; (with_reducible refine (same_at _ _ _ _ _).mono ?_); rintro e w' ⟨rfl, rfl⟩) | (go_at_call 65; refine (same_kept _ _ _ _ _ _ (by assumption)).mono ?_; rintro e w' ⟨rfl, rfl⟩))
  go_returns
  exact ⟨rfl, (by repeat (first | assumption | exact Kept.refl ht | refine Kept.alloc ?_ _ _ | refine Kept.trans ?_ (by assumption)))⟩
set_option maxRecDepth 100000 in
set_option maxHeartbeats 4000000 in
theorem neg1 (s a b : Int) (w : World) (ht : Tab w) (p1 e1 p2 e2 : Int) (h1 : u2 s a b (a + b) = (p1, e1)) (h2 : u2 s a b (a * b) = (p2, e2)) (hs : isSz s = true) (he : e1 = 0) (hp : p1 = a + b) (ha : isI s a = true) (hb : isI s b = true) (hab : isI s (a + b) = true) (hn : b < 0) :
    Calls Tryd.prog 7 #[.int .i64 s, .int .i64 a, .int .i64 b] w fun e w' => e = .returned (.bool true) ∧ Kept w w' := by
  have hlt := ht.lt
  have cA := Lib.hid (fun w ht => add_v s a b p1 e1 w ht h1)
  have cB := Lib.hid (fun w ht => add_v s b a p1 e1 w ht (by rw [u2_comm, Int.add_comm]; exact h1))
  have cM := Lib.hid (fun w ht => mulp_v s a b p2 e2 w ht h2)
  have cN := Lib.hid (fun w ht => mulp_v s b a p2 e2 w ht (by rw [u2_comm, Int.mul_comm]; exact h2))
  clear h2
  subst he
  have cS := Lib.hid (fun w ht => sub_v s p1 b a w ht (by rw [hp, u2_y hs, hab, hb, Int.add_sub_cancel, fit_y ha]; rfl))
  clear h1 hp ha hb hab hs
  go_enter Tryd.func7, Tryd.ntmps7
  go_wp2_with (first | (go_at_call 9; refine (awake_any _ (by repeat (first | assumption | refine Tab.alloc ?_ _))).mono ?_; rintro e w10 ⟨rfl, hk10⟩; obtain ⟨hc10, hf10⟩ := bcell hk10.2; have ht10 := hk10.1; have hz10 := hk10.2.size; (try simp only [World.size_alloc] at hz10)) | (go_at_call 31; (with_reducible refine (cA.out _ (by repeat (first | assumption | refine Tab.alloc ?_ _))).mono ?_); rintro e w11 ⟨rfl, hk11⟩; obtain ⟨hc11, hf11⟩ := bcell hk11.2; have ht11 := hk11.1; have hz11 := hk11.2.size; (try simp only [World.size_alloc] at hz11)) | (go_at_call 31; (with_reducible refine (cB.out _ (by repeat (first | assumption | refine Tab.alloc ?_ _))).mono ?_); rintro e w12 ⟨rfl, hk12⟩; obtain ⟨hc12, hf12⟩ := bcell hk12.2; have ht12 := hk12.1; have hz12 := hk12.2.size; (try simp only [World.size_alloc] at hz12)) | (go_at_call 35; (with_reducible refine (cM.out _ (by repeat (first | assumption | refine Tab.alloc ?_ _))).mono ?_); rintro e w13 ⟨rfl, hk13⟩; obtain ⟨hc13, hf13⟩ := bcell hk13.2; have ht13 := hk13.1; have hz13 := hk13.2.size; (try simp only [World.size_alloc] at hz13)) | (go_at_call 35; (with_reducible refine (cN.out _ (by repeat (first | assumption | refine Tab.alloc ?_ _))).mono ?_); rintro e w14 ⟨rfl, hk14⟩; obtain ⟨hc14, hf14⟩ := bcell hk14.2; have ht14 := hk14.1; have hz14 := hk14.2.size; (try simp only [World.size_alloc] at hz14)) | (go_at_call 33; (with_reducible refine (cS.out _ (by repeat (first | assumption | refine Tab.alloc ?_ _))).mono ?_); rintro e w4 ⟨rfl, hk4⟩; obtain ⟨hc4, hf4⟩ := bcell hk4.2; have ht4 := hk4.1; have hz4 := hk4.2.size; (try simp only [World.size_alloc] at hz4)) | (go_at_call 20; go_in) | (go_at_call 65; (with_reducible refine (same_at _ _ _ _ _).mono ?_); rintro e w' ⟨rfl, rfl⟩) | (go_at_call 65; refine (same_kept _ _ _ _ _ _ (by assumption)).mono ?_; rintro e w' ⟨rfl, rfl⟩))
  go_returns
  exact ⟨rfl, (by repeat (first | assumption | exact Kept.refl ht | refine Kept.alloc ?_ _ _ | refine Kept.trans ?_ (by assumption)))⟩
set_option maxRecDepth 100000 in
set_option maxHeartbeats 4000000 in
theorem big0 (s a b : Int) (w : World) (ht : Tab w) (p1 e1 p2 e2 : Int) (h1 : u2 s a b (a + b) = (p1, e1)) (h2 : u2 s a b (a * b) = (p2, e2)) (he : (e1 == 0) = false) (hn : 70 < b) :
    Calls Tryd.prog 7 #[.int .i64 s, .int .i64 a, .int .i64 b] w fun e w' => e = .returned (.bool true) ∧ Kept w w' := by
  have hlt := ht.lt
  have hn' : ¬ b < 0 := by omega
  have cA := Lib.hid (fun w ht => add_v s a b p1 e1 w ht h1)
  have cB := Lib.hid (fun w ht => add_v s b a p1 e1 w ht (by rw [u2_comm, Int.add_comm]; exact h1))
  have cM := Lib.hid (fun w ht => mulp_v s a b p2 e2 w ht h2)
  have cN := Lib.hid (fun w ht => mulp_v s b a p2 e2 w ht (by rw [u2_comm, Int.mul_comm]; exact h2))
  clear h2
  clear h1
  go_enter Tryd.func7, Tryd.ntmps7
  go_wp2_with (first | (go_at_call 9; refine (awake_any _ (by repeat (first | assumption | refine Tab.alloc ?_ _))).mono ?_; rintro e w16 ⟨rfl, hk16⟩; obtain ⟨hc16, hf16⟩ := bcell hk16.2; have ht16 := hk16.1; have hz16 := hk16.2.size; (try simp only [World.size_alloc] at hz16)) | (go_at_call 31; (with_reducible refine (cA.out _ (by repeat (first | assumption | refine Tab.alloc ?_ _))).mono ?_); rintro e w17 ⟨rfl, hk17⟩; obtain ⟨hc17, hf17⟩ := bcell hk17.2; have ht17 := hk17.1; have hz17 := hk17.2.size; (try simp only [World.size_alloc] at hz17)) | (go_at_call 31; (with_reducible refine (cB.out _ (by repeat (first | assumption | refine Tab.alloc ?_ _))).mono ?_); rintro e w18 ⟨rfl, hk18⟩; obtain ⟨hc18, hf18⟩ := bcell hk18.2; have ht18 := hk18.1; have hz18 := hk18.2.size; (try simp only [World.size_alloc] at hz18)) | (go_at_call 35; (with_reducible refine (cM.out _ (by repeat (first | assumption | refine Tab.alloc ?_ _))).mono ?_); rintro e w19 ⟨rfl, hk19⟩; obtain ⟨hc19, hf19⟩ := bcell hk19.2; have ht19 := hk19.1; have hz19 := hk19.2.size; (try simp only [World.size_alloc] at hz19)) | (go_at_call 35; (with_reducible refine (cN.out _ (by repeat (first | assumption | refine Tab.alloc ?_ _))).mono ?_); rintro e w20 ⟨rfl, hk20⟩; obtain ⟨hc20, hf20⟩ := bcell hk20.2; have ht20 := hk20.1; have hz20 := hk20.2.size; (try simp only [World.size_alloc] at hz20)) | (go_at_call 20; go_in) | (go_at_call 65; (with_reducible refine (same_at _ _ _ _ _).mono ?_); rintro e w' ⟨rfl, rfl⟩) | (go_at_call 65; refine (same_kept _ _ _ _ _ _ (by assumption)).mono ?_; rintro e w' ⟨rfl, rfl⟩))
  go_returns
  exact ⟨rfl, (by repeat (first | assumption | exact Kept.refl ht | refine Kept.alloc ?_ _ _ | refine Kept.trans ?_ (by assumption)))⟩
set_option maxRecDepth 100000 in
set_option maxHeartbeats 4000000 in
theorem big1 (s a b : Int) (w : World) (ht : Tab w) (p1 e1 p2 e2 : Int) (h1 : u2 s a b (a + b) = (p1, e1)) (h2 : u2 s a b (a * b) = (p2, e2)) (hs : isSz s = true) (he : e1 = 0) (hp : p1 = a + b) (ha : isI s a = true) (hb : isI s b = true) (hab : isI s (a + b) = true) (hn : 70 < b) :
    Calls Tryd.prog 7 #[.int .i64 s, .int .i64 a, .int .i64 b] w fun e w' => e = .returned (.bool true) ∧ Kept w w' := by
  have hlt := ht.lt
  have hn' : ¬ b < 0 := by omega
  have cA := Lib.hid (fun w ht => add_v s a b p1 e1 w ht h1)
  have cB := Lib.hid (fun w ht => add_v s b a p1 e1 w ht (by rw [u2_comm, Int.add_comm]; exact h1))
  have cM := Lib.hid (fun w ht => mulp_v s a b p2 e2 w ht h2)
  have cN := Lib.hid (fun w ht => mulp_v s b a p2 e2 w ht (by rw [u2_comm, Int.mul_comm]; exact h2))
  clear h2
  subst he
  have cS := Lib.hid (fun w ht => sub_v s p1 b a w ht (by rw [hp, u2_y hs, hab, hb, Int.add_sub_cancel, fit_y ha]; rfl))
  clear h1 hp ha hb hab hs
  go_enter Tryd.func7, Tryd.ntmps7
  go_wp2_with (first | (go_at_call 9; refine (awake_any _ (by repeat (first | assumption | refine Tab.alloc ?_ _))).mono ?_; rintro e w21 ⟨rfl, hk21⟩; obtain ⟨hc21, hf21⟩ := bcell hk21.2; have ht21 := hk21.1; have hz21 := hk21.2.size; (try simp only [World.size_alloc] at hz21)) | (go_at_call 31; (with_reducible refine (cA.out _ (by repeat (first | assumption | refine Tab.alloc ?_ _))).mono ?_); rintro e w22 ⟨rfl, hk22⟩; obtain ⟨hc22, hf22⟩ := bcell hk22.2; have ht22 := hk22.1; have hz22 := hk22.2.size; (try simp only [World.size_alloc] at hz22)) | (go_at_call 31; (with_reducible refine (cB.out _ (by repeat (first | assumption | refine Tab.alloc ?_ _))).mono ?_); rintro e w23 ⟨rfl, hk23⟩; obtain ⟨hc23, hf23⟩ := bcell hk23.2; have ht23 := hk23.1; have hz23 := hk23.2.size; (try simp only [World.size_alloc] at hz23)) | (go_at_call 35; (with_reducible refine (cM.out _ (by repeat (first | assumption | refine Tab.alloc ?_ _))).mono ?_); rintro e w24 ⟨rfl, hk24⟩; obtain ⟨hc24, hf24⟩ := bcell hk24.2; have ht24 := hk24.1; have hz24 := hk24.2.size; (try simp only [World.size_alloc] at hz24)) | (go_at_call 35; (with_reducible refine (cN.out _ (by repeat (first | assumption | refine Tab.alloc ?_ _))).mono ?_); rintro e w25 ⟨rfl, hk25⟩; obtain ⟨hc25, hf25⟩ := bcell hk25.2; have ht25 := hk25.1; have hz25 := hk25.2.size; (try simp only [World.size_alloc] at hz25)) | (go_at_call 33; (with_reducible refine (cS.out _ (by repeat (first | assumption | refine Tab.alloc ?_ _))).mono ?_); rintro e w15 ⟨rfl, hk15⟩; obtain ⟨hc15, hf15⟩ := bcell hk15.2; have ht15 := hk15.1; have hz15 := hk15.2.size; (try simp only [World.size_alloc] at hz15)) | (go_at_call 20; go_in) | (go_at_call 65; (with_reducible refine (same_at _ _ _ _ _).mono ?_); rintro e w' ⟨rfl, rfl⟩) | (go_at_call 65; refine (same_kept _ _ _ _ _ _ (by assumption)).mono ?_; rintro e w' ⟨rfl, rfl⟩))
  go_returns
  exact ⟨rfl, (by repeat (first | assumption | exact Kept.refl ht | refine Kept.alloc ?_ _ _ | refine Kept.trans ?_ (by assumption)))⟩
set_option maxRecDepth 100000 in
set_option maxHeartbeats 4000000 in
theorem bad0 (s a b : Int) (w : World) (ht : Tab w) (p1 e1 p2 e2 : Int) (h1 : u2 s a b (a + b) = (p1, e1)) (h2 : u2 s a b (a * b) = (p2, e2)) (he : (e1 == 0) = false) (l0 : 0 ≤ b) (l1 : b ≤ 70) (e3 : Int) (h3 : powR s a b = (0, e3)) (h4 : (e3 == 0) = false) :
    Calls Tryd.prog 7 #[.int .i64 s, .int .i64 a, .int .i64 b] w fun e w' => e = .returned (.bool true) ∧ Kept w w' := by
  have hlt := ht.lt
  have cP := Lib.hid (fun w ht => pow_v s a b 0 e3 w ht (by omega) (by omega) h3)
  clear h3
  have cA := Lib.hid (fun w ht => add_v s a b p1 e1 w ht h1)
  have cB := Lib.hid (fun w ht => add_v s b a p1 e1 w ht (by rw [u2_comm, Int.add_comm]; exact h1))
  have cM := Lib.hid (fun w ht => mulp_v s a b p2 e2 w ht h2)
  have cN := Lib.hid (fun w ht => mulp_v s b a p2 e2 w ht (by rw [u2_comm, Int.mul_comm]; exact h2))
  clear h2
  clear h1
  go_enter Tryd.func7, Tryd.ntmps7
  go_wp2_with (first | (go_at_call 9; refine (awake_any _ (by repeat (first | assumption | refine Tab.alloc ?_ _))).mono ?_; rintro e w28 ⟨rfl, hk28⟩; obtain ⟨hc28, hf28⟩ := bcell hk28.2; have ht28 := hk28.1; have hz28 := hk28.2.size; (try simp only [World.size_alloc] at hz28)) | (go_at_call 31; (with_reducible refine (cA.out _ (by repeat (first | assumption | refine Tab.alloc ?_ _))).mono ?_); rintro e w29 ⟨rfl, hk29⟩; obtain ⟨hc29, hf29⟩ := bcell hk29.2; have ht29 := hk29.1; have hz29 := hk29.2.size; (try simp only [World.size_alloc] at hz29)) | (go_at_call 31; (with_reducible refine (cB.out _ (by repeat (first | assumption | refine Tab.alloc ?_ _))).mono ?_); rintro e w30 ⟨rfl, hk30⟩; obtain ⟨hc30, hf30⟩ := bcell hk30.2; have ht30 := hk30.1; have hz30 := hk30.2.size; (try simp only [World.size_alloc] at hz30)) | (go_at_call 35; (with_reducible refine (cM.out _ (by repeat (first | assumption | refine Tab.alloc ?_ _))).mono ?_); rintro e w31 ⟨rfl, hk31⟩; obtain ⟨hc31, hf31⟩ := bcell hk31.2; have ht31 := hk31.1; have hz31 := hk31.2.size; (try simp only [World.size_alloc] at hz31)) | (go_at_call 35; (with_reducible refine (cN.out _ (by repeat (first | assumption | refine Tab.alloc ?_ _))).mono ?_); rintro e w32 ⟨rfl, hk32⟩; obtain ⟨hc32, hf32⟩ := bcell hk32.2; have ht32 := hk32.1; have hz32 := hk32.2.size; (try simp only [World.size_alloc] at hz32)) | (go_at_call 41; (with_reducible refine (cP.out _ (by repeat (first | assumption | refine Tab.alloc ?_ _))).mono ?_); rintro e w26 ⟨rfl, hk26⟩; obtain ⟨hc26, hf26⟩ := bcell hk26.2; have ht26 := hk26.1; have hz26 := hk26.2.size; (try simp only [World.size_alloc] at hz26)) | (go_at_call 20; go_in) | (go_at_call 65; (with_reducible refine (same_at _ _ _ _ _).mono ?_); rintro e w' ⟨rfl, rfl⟩) | (go_at_call 65; refine (same_kept _ _ _ _ _ _ (by assumption)).mono ?_; rintro e w' ⟨rfl, rfl⟩))
  go_returns
  exact ⟨rfl, (by repeat (first | assumption | exact Kept.refl ht | refine Kept.alloc ?_ _ _ | refine Kept.trans ?_ (by assumption)))⟩
set_option maxRecDepth 100000 in
set_option maxHeartbeats 4000000 in
theorem bad1 (s a b : Int) (w : World) (ht : Tab w) (p1 e1 p2 e2 : Int) (h1 : u2 s a b (a + b) = (p1, e1)) (h2 : u2 s a b (a * b) = (p2, e2)) (hs : isSz s = true) (he : e1 = 0) (hp : p1 = a + b) (ha : isI s a = true) (hb : isI s b = true) (hab : isI s (a + b) = true) (l0 : 0 ≤ b) (l1 : b ≤ 70) (e3 : Int) (h3 : powR s a b = (0, e3)) (h4 : (e3 == 0) = false) :
    Calls Tryd.prog 7 #[.int .i64 s, .int .i64 a, .int .i64 b] w fun e w' => e = .returned (.bool true) ∧ Kept w w' := by
  have hlt := ht.lt
  have cP := Lib.hid (fun w ht => pow_v s a b 0 e3 w ht (by omega) (by omega) h3)
  clear h3
  have cA := Lib.hid (fun w ht => add_v s a b p1 e1 w ht h1)
  have cB := Lib.hid (fun w ht => add_v s b a p1 e1 w ht (by rw [u2_comm, Int.add_comm]; exact h1))
  have cM := Lib.hid (fun w ht => mulp_v s a b p2 e2 w ht h2)
  have cN := Lib.hid (fun w ht => mulp_v s b a p2 e2 w ht (by rw [u2_comm, Int.mul_comm]; exact h2))
  clear h2
  subst he
  have cS := Lib.hid (fun w ht => sub_v s p1 b a w ht (by rw [hp, u2_y hs, hab, hb, Int.add_sub_cancel, fit_y ha]; rfl))
  clear h1 hp ha hb hab hs
  go_enter Tryd.func7, Tryd.ntmps7
  go_wp2_with (first | (go_at_call 9; refine (awake_any _ (by repeat (first | assumption | refine Tab.alloc ?_ _))).mono ?_; rintro e w33 ⟨rfl, hk33⟩; obtain ⟨hc33, hf33⟩ := bcell hk33.2; have ht33 := hk33.1; have hz33 := hk33.2.size; (try simp only [World.size_alloc] at hz33)) | (go_at_call 31; (with_reducible refine (cA.out _ (by repeat (first | assumption | refine Tab.alloc ?_ _))).mono ?_); rintro e w34 ⟨rfl, hk34⟩; obtain ⟨hc34, hf34⟩ := bcell hk34.2; have ht34 := hk34.1; have hz34 := hk34.2.size; (try simp only [World.size_alloc] at hz34)) | (go_at_call 31; (with_reducible refine (cB.out _ (by repeat (first | assumption | refine Tab.alloc ?_ _))).mono ?_); rintro e w35 ⟨rfl, hk35⟩; obtain ⟨hc35, hf35⟩ := bcell hk35.2; have ht35 := hk35.1; have hz35 := hk35.2.size; (try simp only [World.size_alloc] at hz35)) | (go_at_call 35; (with_reducible refine (cM.out _ (by repeat (first | assumption | refine Tab.alloc ?_ _))).mono ?_); rintro e w36 ⟨rfl, hk36⟩; obtain ⟨hc36, hf36⟩ := bcell hk36.2; have ht36 := hk36.1; have hz36 := hk36.2.size; (try simp only [World.size_alloc] at hz36)) | (go_at_call 35; (with_reducible refine (cN.out _ (by repeat (first | assumption | refine Tab.alloc ?_ _))).mono ?_); rintro e w37 ⟨rfl, hk37⟩; obtain ⟨hc37, hf37⟩ := bcell hk37.2; have ht37 := hk37.1; have hz37 := hk37.2.size; (try simp only [World.size_alloc] at hz37)) | (go_at_call 33; (with_reducible refine (cS.out _ (by repeat (first | assumption | refine Tab.alloc ?_ _))).mono ?_); rintro e w27 ⟨rfl, hk27⟩; obtain ⟨hc27, hf27⟩ := bcell hk27.2; have ht27 := hk27.1; have hz27 := hk27.2.size; (try simp only [World.size_alloc] at hz27)) | (go_at_call 41; (with_reducible refine (cP.out _ (by repeat (first | assumption | refine Tab.alloc ?_ _))).mono ?_); rintro e w26 ⟨rfl, hk26⟩; obtain ⟨hc26, hf26⟩ := bcell hk26.2; have ht26 := hk26.1; have hz26 := hk26.2.size; (try simp only [World.size_alloc] at hz26)) | (go_at_call 20; go_in) | (go_at_call 65; (with_reducible refine (same_at _ _ _ _ _).mono ?_); rintro e w' ⟨rfl, rfl⟩) | (go_at_call 65; refine (same_kept _ _ _ _ _ _ (by assumption)).mono ?_; rintro e w' ⟨rfl, rfl⟩))
  go_returns
  exact ⟨rfl, (by repeat (first | assumption | exact Kept.refl ht | refine Kept.alloc ?_ _ _ | refine Kept.trans ?_ (by assumption)))⟩
set_option maxRecDepth 100000 in
set_option maxHeartbeats 4000000 in
theorem good0 (s a b : Int) (w : World) (ht : Tab w) (p1 e1 p2 e2 : Int) (h1 : u2 s a b (a + b) = (p1, e1)) (h2 : u2 s a b (a * b) = (p2, e2)) (he : (e1 == 0) = false) (l0 : 0 ≤ b) (l1 : b ≤ 70) (p x y : Int) (h3 : powR s a b = (p, 0)) (h4 : powR s a (b / 2) = (x, 0)) (h5 : powR s a (b - b / 2) = (y, 0)) (h6 : u2 s x y p = (p, 0)) (h7 : x * y = p) :
    Calls Tryd.prog 7 #[.int .i64 s, .int .i64 a, .int .i64 b] w fun e w' => e = .returned (.bool true) ∧ Kept w w' := by
  have hlt := ht.lt
  have cP := Lib.hid (fun w ht => pow_v s a b p 0 w ht (by omega) (by omega) h3)
  have cX := Lib.hid (fun w ht => pow_v s a (b / 2) x 0 w ht (by omega) (by omega) h4)
  have cY := Lib.hid (fun w ht => pow_v s a (b - b / 2) y 0 w ht (by omega) (by omega) h5)
  have cQ := Lib.hid (fun w ht => mul_v s x y p p w ht h7 h6)
  clear h3 h4 h5 h6 h7
  have cA := Lib.hid (fun w ht => add_v s a b p1 e1 w ht h1)
  have cB := Lib.hid (fun w ht => add_v s b a p1 e1 w ht (by rw [u2_comm, Int.add_comm]; exact h1))
  have cM := Lib.hid (fun w ht => mulp_v s a b p2 e2 w ht h2)
  have cN := Lib.hid (fun w ht => mulp_v s b a p2 e2 w ht (by rw [u2_comm, Int.mul_comm]; exact h2))
  clear h2
  clear h1
  go_enter Tryd.func7, Tryd.ntmps7
  go_wp2_with (first | (go_at_call 9; refine (awake_any _ (by repeat (first | assumption | refine Tab.alloc ?_ _))).mono ?_; rintro e w43 ⟨rfl, hk43⟩; obtain ⟨hc43, hf43⟩ := bcell hk43.2; have ht43 := hk43.1; have hz43 := hk43.2.size; (try simp only [World.size_alloc] at hz43)) | (go_at_call 31; (with_reducible refine (cA.out _ (by repeat (first | assumption | refine Tab.alloc ?_ _))).mono ?_); rintro e w44 ⟨rfl, hk44⟩; obtain ⟨hc44, hf44⟩ := bcell hk44.2; have ht44 := hk44.1; have hz44 := hk44.2.size; (try simp only [World.size_alloc] at hz44)) | (go_at_call 31; (with_reducible refine (cB.out _ (by repeat (first | assumption | refine Tab.alloc ?_ _))).mono ?_); rintro e w45 ⟨rfl, hk45⟩; obtain ⟨hc45, hf45⟩ := bcell hk45.2; have ht45 := hk45.1; have hz45 := hk45.2.size; (try simp only [World.size_alloc] at hz45)) | (go_at_call 35; (with_reducible refine (cM.out _ (by repeat (first | assumption | refine Tab.alloc ?_ _))).mono ?_); rintro e w46 ⟨rfl, hk46⟩; obtain ⟨hc46, hf46⟩ := bcell hk46.2; have ht46 := hk46.1; have hz46 := hk46.2.size; (try simp only [World.size_alloc] at hz46)) | (go_at_call 35; (with_reducible refine (cN.out _ (by repeat (first | assumption | refine Tab.alloc ?_ _))).mono ?_); rintro e w47 ⟨rfl, hk47⟩; obtain ⟨hc47, hf47⟩ := bcell hk47.2; have ht47 := hk47.1; have hz47 := hk47.2.size; (try simp only [World.size_alloc] at hz47)) | (go_at_call 41; (with_reducible refine (cP.out _ (by repeat (first | assumption | refine Tab.alloc ?_ _))).mono ?_); rintro e w38 ⟨rfl, hk38⟩; obtain ⟨hc38, hf38⟩ := bcell hk38.2; have ht38 := hk38.1; have hz38 := hk38.2.size; (try simp only [World.size_alloc] at hz38)) | (go_at_call 41; (with_reducible refine (cX.out _ (by repeat (first | assumption | refine Tab.alloc ?_ _))).mono ?_); rintro e w39 ⟨rfl, hk39⟩; obtain ⟨hc39, hf39⟩ := bcell hk39.2; have ht39 := hk39.1; have hz39 := hk39.2.size; (try simp only [World.size_alloc] at hz39)) | (go_at_call 41; (with_reducible refine (cY.out _ (by repeat (first | assumption | refine Tab.alloc ?_ _))).mono ?_); rintro e w40 ⟨rfl, hk40⟩; obtain ⟨hc40, hf40⟩ := bcell hk40.2; have ht40 := hk40.1; have hz40 := hk40.2.size; (try simp only [World.size_alloc] at hz40)) | (go_at_call 35; (with_reducible refine (cQ.out _ (by repeat (first | assumption | refine Tab.alloc ?_ _))).mono ?_); rintro e w41 ⟨rfl, hk41⟩; obtain ⟨hc41, hf41⟩ := bcell hk41.2; have ht41 := hk41.1; have hz41 := hk41.2.size; (try simp only [World.size_alloc] at hz41)) | (go_at_call 20; go_in) | (go_at_call 65; (with_reducible refine (same_at _ _ _ _ _).mono ?_); rintro e w' ⟨rfl, rfl⟩) | (go_at_call 65; refine (same_kept _ _ _ _ _ _ (by assumption)).mono ?_; rintro e w' ⟨rfl, rfl⟩))
  go_returns
  exact ⟨rfl, (by repeat (first | assumption | exact Kept.refl ht | refine Kept.alloc ?_ _ _ | refine Kept.trans ?_ (by assumption)))⟩
set_option maxRecDepth 100000 in
set_option maxHeartbeats 4000000 in
theorem good1 (s a b : Int) (w : World) (ht : Tab w) (p1 e1 p2 e2 : Int) (h1 : u2 s a b (a + b) = (p1, e1)) (h2 : u2 s a b (a * b) = (p2, e2)) (hs : isSz s = true) (he : e1 = 0) (hp : p1 = a + b) (ha : isI s a = true) (hb : isI s b = true) (hab : isI s (a + b) = true) (l0 : 0 ≤ b) (l1 : b ≤ 70) (p x y : Int) (h3 : powR s a b = (p, 0)) (h4 : powR s a (b / 2) = (x, 0)) (h5 : powR s a (b - b / 2) = (y, 0)) (h6 : u2 s x y p = (p, 0)) (h7 : x * y = p) :
    Calls Tryd.prog 7 #[.int .i64 s, .int .i64 a, .int .i64 b] w fun e w' => e = .returned (.bool true) ∧ Kept w w' := by
  have hlt := ht.lt
  have cP := Lib.hid (fun w ht => pow_v s a b p 0 w ht (by omega) (by omega) h3)
  have cX := Lib.hid (fun w ht => pow_v s a (b / 2) x 0 w ht (by omega) (by omega) h4)
  have cY := Lib.hid (fun w ht => pow_v s a (b - b / 2) y 0 w ht (by omega) (by omega) h5)
  have cQ := Lib.hid (fun w ht => mul_v s x y p p w ht h7 h6)
  clear h3 h4 h5 h6 h7
  have cA := Lib.hid (fun w ht => add_v s a b p1 e1 w ht h1)
  have cB := Lib.hid (fun w ht => add_v s b a p1 e1 w ht (by rw [u2_comm, Int.add_comm]; exact h1))
  have cM := Lib.hid (fun w ht => mulp_v s a b p2 e2 w ht h2)
  have cN := Lib.hid (fun w ht => mulp_v s b a p2 e2 w ht (by rw [u2_comm, Int.mul_comm]; exact h2))
  clear h2
  subst he
  have cS := Lib.hid (fun w ht => sub_v s p1 b a w ht (by rw [hp, u2_y hs, hab, hb, Int.add_sub_cancel, fit_y ha]; rfl))
  clear h1 hp ha hb hab hs
  go_enter Tryd.func7, Tryd.ntmps7
  go_wp2_with (first | (go_at_call 9; refine (awake_any _ (by repeat (first | assumption | refine Tab.alloc ?_ _))).mono ?_; rintro e w48 ⟨rfl, hk48⟩; obtain ⟨hc48, hf48⟩ := bcell hk48.2; have ht48 := hk48.1; have hz48 := hk48.2.size; (try simp only [World.size_alloc] at hz48)) | (go_at_call 31; (with_reducible refine (cA.out _ (by repeat (first | assumption | refine Tab.alloc ?_ _))).mono ?_); rintro e w49 ⟨rfl, hk49⟩; obtain ⟨hc49, hf49⟩ := bcell hk49.2; have ht49 := hk49.1; have hz49 := hk49.2.size; (try simp only [World.size_alloc] at hz49)) | (go_at_call 31; (with_reducible refine (cB.out _ (by repeat (first | assumption | refine Tab.alloc ?_ _))).mono ?_); rintro e w50 ⟨rfl, hk50⟩; obtain ⟨hc50, hf50⟩ := bcell hk50.2; have ht50 := hk50.1; have hz50 := hk50.2.size; (try simp only [World.size_alloc] at hz50)) | (go_at_call 35; (with_reducible refine (cM.out _ (by repeat (first | assumption | refine Tab.alloc ?_ _))).mono ?_); rintro e w51 ⟨rfl, hk51⟩; obtain ⟨hc51, hf51⟩ := bcell hk51.2; have ht51 := hk51.1; have hz51 := hk51.2.size; (try simp only [World.size_alloc] at hz51)) | (go_at_call 35; (with_reducible refine (cN.out _ (by repeat (first | assumption | refine Tab.alloc ?_ _))).mono ?_); rintro e w52 ⟨rfl, hk52⟩; obtain ⟨hc52, hf52⟩ := bcell hk52.2; have ht52 := hk52.1; have hz52 := hk52.2.size; (try simp only [World.size_alloc] at hz52)) | (go_at_call 33; (with_reducible refine (cS.out _ (by repeat (first | assumption | refine Tab.alloc ?_ _))).mono ?_); rintro e w42 ⟨rfl, hk42⟩; obtain ⟨hc42, hf42⟩ := bcell hk42.2; have ht42 := hk42.1; have hz42 := hk42.2.size; (try simp only [World.size_alloc] at hz42)) | (go_at_call 41; (with_reducible refine (cP.out _ (by repeat (first | assumption | refine Tab.alloc ?_ _))).mono ?_); rintro e w38 ⟨rfl, hk38⟩; obtain ⟨hc38, hf38⟩ := bcell hk38.2; have ht38 := hk38.1; have hz38 := hk38.2.size; (try simp only [World.size_alloc] at hz38)) | (go_at_call 41; (with_reducible refine (cX.out _ (by repeat (first | assumption | refine Tab.alloc ?_ _))).mono ?_); rintro e w39 ⟨rfl, hk39⟩; obtain ⟨hc39, hf39⟩ := bcell hk39.2; have ht39 := hk39.1; have hz39 := hk39.2.size; (try simp only [World.size_alloc] at hz39)) | (go_at_call 41; (with_reducible refine (cY.out _ (by repeat (first | assumption | refine Tab.alloc ?_ _))).mono ?_); rintro e w40 ⟨rfl, hk40⟩; obtain ⟨hc40, hf40⟩ := bcell hk40.2; have ht40 := hk40.1; have hz40 := hk40.2.size; (try simp only [World.size_alloc] at hz40)) | (go_at_call 35; (with_reducible refine (cQ.out _ (by repeat (first | assumption | refine Tab.alloc ?_ _))).mono ?_); rintro e w41 ⟨rfl, hk41⟩; obtain ⟨hc41, hf41⟩ := bcell hk41.2; have ht41 := hk41.1; have hz41 := hk41.2.size; (try simp only [World.size_alloc] at hz41)) | (go_at_call 20; go_in) | (go_at_call 65; (with_reducible refine (same_at _ _ _ _ _).mono ?_); rintro e w' ⟨rfl, rfl⟩) | (go_at_call 65; refine (same_kept _ _ _ _ _ _ (by assumption)).mono ?_; rintro e w' ⟨rfl, rfl⟩))
  go_returns
  exact ⟨rfl, (by repeat (first | assumption | exact Kept.refl ht | refine Kept.alloc ?_ _ _ | refine Kept.trans ?_ (by assumption)))⟩
theorem IntsSums_walk (s a b : Int) (w : World) (ht : Tab w) : Calls Tryd.prog 7 #[.int .i64 s, .int .i64 a, .int .i64 b] w fun e w' => e = .returned (.bool true) ∧ Kept w w' := by
  have all : ∀ p1 e1 p2 e2, u2 s a b (a + b) = (p1, e1) → u2 s a b (a * b) = (p2, e2) → Calls Tryd.prog 7 #[.int .i64 s, .int .i64 a, .int .i64 b] w fun e w' => e = .returned (.bool true) ∧ Kept w w' := by
    intro p1 e1 p2 e2 h1 h2
    cases hs : isSz s
    · have he : (e1 == 0) = false := by rw [u2_no hs] at h1; cases h1; rfl
      rcases (by omega : b < 0 ∨ 70 < b ∨ (0 ≤ b ∧ b ≤ 70)) with h | h | ⟨l0, l1⟩
      · exact neg0 s a b w ht p1 e1 p2 e2 h1 h2 he h
      · exact big0 s a b w ht p1 e1 p2 e2 h1 h2 he h
      · exact bad0 s a b w ht p1 e1 p2 e2 h1 h2 he l0 l1 1 (powR_no hs) rfl
    · cases ha : isI s a
      · have he : (e1 == 0) = false := by rw [u2_y hs, ha] at h1; cases h1; rfl
        rcases (by omega : b < 0 ∨ 70 < b ∨ (0 ≤ b ∧ b ≤ 70)) with h | h | ⟨l0, l1⟩
        · exact neg0 s a b w ht p1 e1 p2 e2 h1 h2 he h
        · exact big0 s a b w ht p1 e1 p2 e2 h1 h2 he h
        · exact bad0 s a b w ht p1 e1 p2 e2 h1 h2 he l0 l1 11 (powR_out hs ha) rfl
      · cases hb : isI s b
        · have he : (e1 == 0) = false := by rw [u2_y hs, ha, hb] at h1; cases h1; rfl
          rcases (by omega : b < 0 ∨ 70 < b ∨ (0 ≤ b ∧ b ≤ 70)) with h | h | ⟨l0, l1⟩
          · exact neg0 s a b w ht p1 e1 p2 e2 h1 h2 he h
          · exact big0 s a b w ht p1 e1 p2 e2 h1 h2 he h
          · rw [small_fits hs l0 l1] at hb; cases hb
        · cases hab : isI s (a + b)
          · have he : (e1 == 0) = false := by rw [u2_y hs, ha, hb, fit_n hab] at h1; cases h1; rfl
            rcases (by omega : b < 0 ∨ 70 < b ∨ (0 ≤ b ∧ b ≤ 70)) with h | h | ⟨l0, l1⟩
            · exact neg0 s a b w ht p1 e1 p2 e2 h1 h2 he h
            · exact big0 s a b w ht p1 e1 p2 e2 h1 h2 he h
            · have hn : ¬ b < 0 := by omega
              cases hp : isI s (pw a b)
              · exact bad0 s a b w ht p1 e1 p2 e2 h1 h2 he l0 l1 11 (by rw [powR_y hs ha hn, fit_n hp]) rfl
              · have f1 := pw_part hs ha (show 0 ≤ b / 2 by omega) (show b / 2 ≤ b by omega) hp
                have f2 := pw_part hs ha (show 0 ≤ b - b / 2 by omega) (show b - b / 2 ≤ b by omega) hp
                have hm : pw a (b / 2) * pw a (b - b / 2) = pw a b := by rw [pw_mul (by omega) (by omega)]; congr 1; omega
                exact good0 s a b w ht p1 e1 p2 e2 h1 h2 he l0 l1 (pw a b) (pw a (b / 2)) (pw a (b - b / 2)) (by rw [powR_y hs ha hn, fit_y hp]) (by rw [powR_y hs ha (by omega), fit_y f1]) (by rw [powR_y hs ha (by omega), fit_y f2]) (by rw [u2_y hs, f1, f2, fit_y hp]; rfl) hm
          · have hh : p1 = a + b ∧ e1 = 0 := by rw [u2_y hs, ha, hb, fit_y hab] at h1; cases h1; exact ⟨rfl, rfl⟩
            obtain ⟨hp1, he⟩ := hh
            rcases (by omega : b < 0 ∨ 70 < b ∨ (0 ≤ b ∧ b ≤ 70)) with h | h | ⟨l0, l1⟩
            · exact neg1 s a b w ht p1 e1 p2 e2 h1 h2 hs he hp1 ha hb hab h
            · exact big1 s a b w ht p1 e1 p2 e2 h1 h2 hs he hp1 ha hb hab h
            · have hn : ¬ b < 0 := by omega
              cases hp : isI s (pw a b)
              · exact bad1 s a b w ht p1 e1 p2 e2 h1 h2 hs he hp1 ha hb hab l0 l1 11 (by rw [powR_y hs ha hn, fit_n hp]) rfl
              · have f1 := pw_part hs ha (show 0 ≤ b / 2 by omega) (show b / 2 ≤ b by omega) hp
                have f2 := pw_part hs ha (show 0 ≤ b - b / 2 by omega) (show b - b / 2 ≤ b by omega) hp
                have hm : pw a (b / 2) * pw a (b - b / 2) = pw a b := by rw [pw_mul (by omega) (by omega)]; congr 1; omega
                exact good1 s a b w ht p1 e1 p2 e2 h1 h2 hs he hp1 ha hb hab l0 l1 (pw a b) (pw a (b / 2)) (pw a (b - b / 2)) (by rw [powR_y hs ha hn, fit_y hp]) (by rw [powR_y hs ha (by omega), fit_y f1]) (by rw [powR_y hs ha (by omega), fit_y f2]) (by rw [u2_y hs, f1, f2, fit_y hp]; rfl) hm
  exact all _ _ _ _ rfl rfl
end Go.Proofs.YtkehmdocjjadnaaDoor
