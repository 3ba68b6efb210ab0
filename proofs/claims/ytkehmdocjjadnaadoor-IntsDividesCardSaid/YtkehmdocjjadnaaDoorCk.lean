/- What the checks of a size and its operands return, for every size and operands. Condition: the table holds what its initialiser lays. -/
import Derived.Test.YtkehmdocjjadnaaDoorIs
import Derived.Test.YtkehmdocjjadnaaDoorIsw
namespace Go.Proofs.YtkehmdocjjadnaaDoor
open Go.ChangeShapes Go.WideShapes Go.ChangeAt Go.RowKit

theorem checkInts1 (s a : Int) (B : Nat) (w : World) (ht : Tab w) (hB : B < w.heap.size) (h0 : w.cell? ⟨B, 0, none⟩ = some (.int .i64 a)) :
    Calls Tryd.prog 63 #[.int .i64 s, .slice (some ⟨B, 0, none⟩) 1 1] w fun e w' => e = .returned (.int .i64 (ck s (isI s a))) ∧ Kept w w' := by
  have hlt := ht.lt
  unfold ck
  cases hs : isSz s
  · go_enter Tryd.func63, Tryd.ntmps63
    go_wp2_with (first | (go_at_call 61; refine (limits_any _ _ (by repeat (first | assumption | refine Tab.alloc ?_ _))).mono ?_; rintro e w1 ⟨rfl, hk1⟩; obtain ⟨hc1, hf1⟩ := bcell hk1.2; have ht1 := hk1.1; have hz1 := hk1.2.size; (try simp only [World.size_alloc] at hz1); have hB1 : B < w1.heap.size := (by omega); have hB2 : B < w1.heap.size + 1 := (by omega)) | (go_at_call 14; refine (Is_any _ _ _ (by repeat (first | assumption | refine Tab.alloc ?_ _))).mono ?_; rintro e w2 ⟨rfl, hk2⟩; obtain ⟨hc2, hf2⟩ := bcell hk2.2; have ht2 := hk2.1; have hz2 := hk2.2.size; (try simp only [World.size_alloc] at hz2); have hB3 : B < w2.heap.size := (by omega)))
    go_returns
    exact ⟨rfl, (by repeat (first | assumption | exact Kept.refl ht | refine Kept.alloc ?_ _ _ | refine Kept.trans ?_ (by assumption)))⟩
  · cases ha : isI s a <;> skip
    all_goals
      go_enter Tryd.func63, Tryd.ntmps63
      go_wp2_with (first | (go_at_call 61; refine (limits_any _ _ (by repeat (first | assumption | refine Tab.alloc ?_ _))).mono ?_; rintro e w1 ⟨rfl, hk1⟩; obtain ⟨hc1, hf1⟩ := bcell hk1.2; have ht1 := hk1.1; have hz1 := hk1.2.size; (try simp only [World.size_alloc] at hz1); have hB1 : B < w1.heap.size := (by omega); have hB2 : B < w1.heap.size + 1 := (by omega)) | (go_at_call 14; refine (Is_any _ _ _ (by repeat (first | assumption | refine Tab.alloc ?_ _))).mono ?_; rintro e w2 ⟨rfl, hk2⟩; obtain ⟨hc2, hf2⟩ := bcell hk2.2; have ht2 := hk2.1; have hz2 := hk2.2.size; (try simp only [World.size_alloc] at hz2); have hB3 : B < w2.heap.size := (by omega)))
      refine wp_loop_rounds 2 ?_
      all_goals (try (rw [rounds_succ]; go_wp2_with (first | (go_at_call 61; refine (limits_any _ _ (by repeat (first | assumption | refine Tab.alloc ?_ _))).mono ?_; rintro e w1 ⟨rfl, hk1⟩; obtain ⟨hc1, hf1⟩ := bcell hk1.2; have ht1 := hk1.1; have hz1 := hk1.2.size; (try simp only [World.size_alloc] at hz1); have hB1 : B < w1.heap.size := (by omega); have hB2 : B < w1.heap.size + 1 := (by omega)) | (go_at_call 14; refine (Is_any _ _ _ (by repeat (first | assumption | refine Tab.alloc ?_ _))).mono ?_; rintro e w2 ⟨rfl, hk2⟩; obtain ⟨hc2, hf2⟩ := bcell hk2.2; have ht2 := hk2.1; have hz2 := hk2.2.size; (try simp only [World.size_alloc] at hz2); have hB3 : B < w2.heap.size := (by omega)))))
      all_goals (try (rw [rounds_succ]; go_wp2_with (first | (go_at_call 61; refine (limits_any _ _ (by repeat (first | assumption | refine Tab.alloc ?_ _))).mono ?_; rintro e w1 ⟨rfl, hk1⟩; obtain ⟨hc1, hf1⟩ := bcell hk1.2; have ht1 := hk1.1; have hz1 := hk1.2.size; (try simp only [World.size_alloc] at hz1); have hB1 : B < w1.heap.size := (by omega); have hB2 : B < w1.heap.size + 1 := (by omega)) | (go_at_call 14; refine (Is_any _ _ _ (by repeat (first | assumption | refine Tab.alloc ?_ _))).mono ?_; rintro e w2 ⟨rfl, hk2⟩; obtain ⟨hc2, hf2⟩ := bcell hk2.2; have ht2 := hk2.1; have hz2 := hk2.2.size; (try simp only [World.size_alloc] at hz2); have hB3 : B < w2.heap.size := (by omega)))))
      go_returns
      exact ⟨by simp, (by repeat (first | assumption | exact Kept.refl ht | refine Kept.alloc ?_ _ _ | refine Kept.trans ?_ (by assumption)))⟩
theorem checkInts2 (s a b : Int) (B : Nat) (w : World) (ht : Tab w) (hB : B < w.heap.size) (h0 : w.cell? ⟨B, 0, none⟩ = some (.int .i64 a)) (h1 : w.cell? ⟨B, 1, none⟩ = some (.int .i64 b)) :
    Calls Tryd.prog 63 #[.int .i64 s, .slice (some ⟨B, 0, none⟩) 2 2] w fun e w' => e = .returned (.int .i64 (ck s (isI s a && isI s b))) ∧ Kept w w' := by
  have hlt := ht.lt
  unfold ck
  cases hs : isSz s
  · go_enter Tryd.func63, Tryd.ntmps63
    go_wp2_with (first | (go_at_call 61; refine (limits_any _ _ (by repeat (first | assumption | refine Tab.alloc ?_ _))).mono ?_; rintro e w1 ⟨rfl, hk1⟩; obtain ⟨hc1, hf1⟩ := bcell hk1.2; have ht1 := hk1.1; have hz1 := hk1.2.size; (try simp only [World.size_alloc] at hz1); have hB1 : B < w1.heap.size := (by omega); have hB2 : B < w1.heap.size + 1 := (by omega)) | (go_at_call 14; refine (Is_any _ _ _ (by repeat (first | assumption | refine Tab.alloc ?_ _))).mono ?_; rintro e w2 ⟨rfl, hk2⟩; obtain ⟨hc2, hf2⟩ := bcell hk2.2; have ht2 := hk2.1; have hz2 := hk2.2.size; (try simp only [World.size_alloc] at hz2); have hB3 : B < w2.heap.size := (by omega)))
    go_returns
    exact ⟨rfl, (by repeat (first | assumption | exact Kept.refl ht | refine Kept.alloc ?_ _ _ | refine Kept.trans ?_ (by assumption)))⟩
  · cases ha : isI s a <;> cases hb : isI s b <;> skip
    all_goals
      go_enter Tryd.func63, Tryd.ntmps63
      go_wp2_with (first | (go_at_call 61; refine (limits_any _ _ (by repeat (first | assumption | refine Tab.alloc ?_ _))).mono ?_; rintro e w1 ⟨rfl, hk1⟩; obtain ⟨hc1, hf1⟩ := bcell hk1.2; have ht1 := hk1.1; have hz1 := hk1.2.size; (try simp only [World.size_alloc] at hz1); have hB1 : B < w1.heap.size := (by omega); have hB2 : B < w1.heap.size + 1 := (by omega)) | (go_at_call 14; refine (Is_any _ _ _ (by repeat (first | assumption | refine Tab.alloc ?_ _))).mono ?_; rintro e w2 ⟨rfl, hk2⟩; obtain ⟨hc2, hf2⟩ := bcell hk2.2; have ht2 := hk2.1; have hz2 := hk2.2.size; (try simp only [World.size_alloc] at hz2); have hB3 : B < w2.heap.size := (by omega)))
      refine wp_loop_rounds 3 ?_
      all_goals (try (rw [rounds_succ]; go_wp2_with (first | (go_at_call 61; refine (limits_any _ _ (by repeat (first | assumption | refine Tab.alloc ?_ _))).mono ?_; rintro e w1 ⟨rfl, hk1⟩; obtain ⟨hc1, hf1⟩ := bcell hk1.2; have ht1 := hk1.1; have hz1 := hk1.2.size; (try simp only [World.size_alloc] at hz1); have hB1 : B < w1.heap.size := (by omega); have hB2 : B < w1.heap.size + 1 := (by omega)) | (go_at_call 14; refine (Is_any _ _ _ (by repeat (first | assumption | refine Tab.alloc ?_ _))).mono ?_; rintro e w2 ⟨rfl, hk2⟩; obtain ⟨hc2, hf2⟩ := bcell hk2.2; have ht2 := hk2.1; have hz2 := hk2.2.size; (try simp only [World.size_alloc] at hz2); have hB3 : B < w2.heap.size := (by omega)))))
      all_goals (try (rw [rounds_succ]; go_wp2_with (first | (go_at_call 61; refine (limits_any _ _ (by repeat (first | assumption | refine Tab.alloc ?_ _))).mono ?_; rintro e w1 ⟨rfl, hk1⟩; obtain ⟨hc1, hf1⟩ := bcell hk1.2; have ht1 := hk1.1; have hz1 := hk1.2.size; (try simp only [World.size_alloc] at hz1); have hB1 : B < w1.heap.size := (by omega); have hB2 : B < w1.heap.size + 1 := (by omega)) | (go_at_call 14; refine (Is_any _ _ _ (by repeat (first | assumption | refine Tab.alloc ?_ _))).mono ?_; rintro e w2 ⟨rfl, hk2⟩; obtain ⟨hc2, hf2⟩ := bcell hk2.2; have ht2 := hk2.1; have hz2 := hk2.2.size; (try simp only [World.size_alloc] at hz2); have hB3 : B < w2.heap.size := (by omega)))))
      all_goals (try (rw [rounds_succ]; go_wp2_with (first | (go_at_call 61; refine (limits_any _ _ (by repeat (first | assumption | refine Tab.alloc ?_ _))).mono ?_; rintro e w1 ⟨rfl, hk1⟩; obtain ⟨hc1, hf1⟩ := bcell hk1.2; have ht1 := hk1.1; have hz1 := hk1.2.size; (try simp only [World.size_alloc] at hz1); have hB1 : B < w1.heap.size := (by omega); have hB2 : B < w1.heap.size + 1 := (by omega)) | (go_at_call 14; refine (Is_any _ _ _ (by repeat (first | assumption | refine Tab.alloc ?_ _))).mono ?_; rintro e w2 ⟨rfl, hk2⟩; obtain ⟨hc2, hf2⟩ := bcell hk2.2; have ht2 := hk2.1; have hz2 := hk2.2.size; (try simp only [World.size_alloc] at hz2); have hB3 : B < w2.heap.size := (by omega)))))
      go_returns
      exact ⟨by simp, (by repeat (first | assumption | exact Kept.refl ht | refine Kept.alloc ?_ _ _ | refine Kept.trans ?_ (by assumption)))⟩
theorem checkWords1 (s a : Int) (B : Nat) (w : World) (ht : Tab w) (hB : B < w.heap.size) (h0 : w.cell? ⟨B, 0, none⟩ = some (.int .i64 a)) :
    Calls Tryd.prog 72 #[.int .i64 s, .slice (some ⟨B, 0, none⟩) 1 1] w fun e w' => e = .returned (.int .i64 (ck s (isW s a))) ∧ Kept w w' := by
  have hlt := ht.lt
  unfold ck
  cases hs : isSz s
  · go_enter Tryd.func72, Tryd.ntmps72
    go_wp2_with (first | (go_at_call 61; refine (limits_any _ _ (by repeat (first | assumption | refine Tab.alloc ?_ _))).mono ?_; rintro e w1 ⟨rfl, hk1⟩; obtain ⟨hc1, hf1⟩ := bcell hk1.2; have ht1 := hk1.1; have hz1 := hk1.2.size; (try simp only [World.size_alloc] at hz1); have hB1 : B < w1.heap.size := (by omega); have hB2 : B < w1.heap.size + 1 := (by omega)) | (go_at_call 16; refine (IsWord_any _ _ _ (by repeat (first | assumption | refine Tab.alloc ?_ _))).mono ?_; rintro e w2 ⟨rfl, hk2⟩; obtain ⟨hc2, hf2⟩ := bcell hk2.2; have ht2 := hk2.1; have hz2 := hk2.2.size; (try simp only [World.size_alloc] at hz2); have hB3 : B < w2.heap.size := (by omega)))
    go_returns
    exact ⟨rfl, (by repeat (first | assumption | exact Kept.refl ht | refine Kept.alloc ?_ _ _ | refine Kept.trans ?_ (by assumption)))⟩
  · cases ha : isW s a <;> skip
    all_goals
      go_enter Tryd.func72, Tryd.ntmps72
      go_wp2_with (first | (go_at_call 61; refine (limits_any _ _ (by repeat (first | assumption | refine Tab.alloc ?_ _))).mono ?_; rintro e w1 ⟨rfl, hk1⟩; obtain ⟨hc1, hf1⟩ := bcell hk1.2; have ht1 := hk1.1; have hz1 := hk1.2.size; (try simp only [World.size_alloc] at hz1); have hB1 : B < w1.heap.size := (by omega); have hB2 : B < w1.heap.size + 1 := (by omega)) | (go_at_call 16; refine (IsWord_any _ _ _ (by repeat (first | assumption | refine Tab.alloc ?_ _))).mono ?_; rintro e w2 ⟨rfl, hk2⟩; obtain ⟨hc2, hf2⟩ := bcell hk2.2; have ht2 := hk2.1; have hz2 := hk2.2.size; (try simp only [World.size_alloc] at hz2); have hB3 : B < w2.heap.size := (by omega)))
      refine wp_loop_rounds 2 ?_
      all_goals (try (rw [rounds_succ]; go_wp2_with (first | (go_at_call 61; refine (limits_any _ _ (by repeat (first | assumption | refine Tab.alloc ?_ _))).mono ?_; rintro e w1 ⟨rfl, hk1⟩; obtain ⟨hc1, hf1⟩ := bcell hk1.2; have ht1 := hk1.1; have hz1 := hk1.2.size; (try simp only [World.size_alloc] at hz1); have hB1 : B < w1.heap.size := (by omega); have hB2 : B < w1.heap.size + 1 := (by omega)) | (go_at_call 16; refine (IsWord_any _ _ _ (by repeat (first | assumption | refine Tab.alloc ?_ _))).mono ?_; rintro e w2 ⟨rfl, hk2⟩; obtain ⟨hc2, hf2⟩ := bcell hk2.2; have ht2 := hk2.1; have hz2 := hk2.2.size; (try simp only [World.size_alloc] at hz2); have hB3 : B < w2.heap.size := (by omega)))))
      all_goals (try (rw [rounds_succ]; go_wp2_with (first | (go_at_call 61; refine (limits_any _ _ (by repeat (first | assumption | refine Tab.alloc ?_ _))).mono ?_; rintro e w1 ⟨rfl, hk1⟩; obtain ⟨hc1, hf1⟩ := bcell hk1.2; have ht1 := hk1.1; have hz1 := hk1.2.size; (try simp only [World.size_alloc] at hz1); have hB1 : B < w1.heap.size := (by omega); have hB2 : B < w1.heap.size + 1 := (by omega)) | (go_at_call 16; refine (IsWord_any _ _ _ (by repeat (first | assumption | refine Tab.alloc ?_ _))).mono ?_; rintro e w2 ⟨rfl, hk2⟩; obtain ⟨hc2, hf2⟩ := bcell hk2.2; have ht2 := hk2.1; have hz2 := hk2.2.size; (try simp only [World.size_alloc] at hz2); have hB3 : B < w2.heap.size := (by omega)))))
      go_returns
      exact ⟨by simp, (by repeat (first | assumption | exact Kept.refl ht | refine Kept.alloc ?_ _ _ | refine Kept.trans ?_ (by assumption)))⟩
theorem checkWords2 (s a b : Int) (B : Nat) (w : World) (ht : Tab w) (hB : B < w.heap.size) (h0 : w.cell? ⟨B, 0, none⟩ = some (.int .i64 a)) (h1 : w.cell? ⟨B, 1, none⟩ = some (.int .i64 b)) :
    Calls Tryd.prog 72 #[.int .i64 s, .slice (some ⟨B, 0, none⟩) 2 2] w fun e w' => e = .returned (.int .i64 (ck s (isW s a && isW s b))) ∧ Kept w w' := by
  have hlt := ht.lt
  unfold ck
  cases hs : isSz s
  · go_enter Tryd.func72, Tryd.ntmps72
    go_wp2_with (first | (go_at_call 61; refine (limits_any _ _ (by repeat (first | assumption | refine Tab.alloc ?_ _))).mono ?_; rintro e w1 ⟨rfl, hk1⟩; obtain ⟨hc1, hf1⟩ := bcell hk1.2; have ht1 := hk1.1; have hz1 := hk1.2.size; (try simp only [World.size_alloc] at hz1); have hB1 : B < w1.heap.size := (by omega); have hB2 : B < w1.heap.size + 1 := (by omega)) | (go_at_call 16; refine (IsWord_any _ _ _ (by repeat (first | assumption | refine Tab.alloc ?_ _))).mono ?_; rintro e w2 ⟨rfl, hk2⟩; obtain ⟨hc2, hf2⟩ := bcell hk2.2; have ht2 := hk2.1; have hz2 := hk2.2.size; (try simp only [World.size_alloc] at hz2); have hB3 : B < w2.heap.size := (by omega)))
    go_returns
    exact ⟨rfl, (by repeat (first | assumption | exact Kept.refl ht | refine Kept.alloc ?_ _ _ | refine Kept.trans ?_ (by assumption)))⟩
  · cases ha : isW s a <;> cases hb : isW s b <;> skip
    all_goals
      go_enter Tryd.func72, Tryd.ntmps72
      go_wp2_with (first | (go_at_call 61; refine (limits_any _ _ (by repeat (first | assumption | refine Tab.alloc ?_ _))).mono ?_; rintro e w1 ⟨rfl, hk1⟩; obtain ⟨hc1, hf1⟩ := bcell hk1.2; have ht1 := hk1.1; have hz1 := hk1.2.size; (try simp only [World.size_alloc] at hz1); have hB1 : B < w1.heap.size := (by omega); have hB2 : B < w1.heap.size + 1 := (by omega)) | (go_at_call 16; refine (IsWord_any _ _ _ (by repeat (first | assumption | refine Tab.alloc ?_ _))).mono ?_; rintro e w2 ⟨rfl, hk2⟩; obtain ⟨hc2, hf2⟩ := bcell hk2.2; have ht2 := hk2.1; have hz2 := hk2.2.size; (try simp only [World.size_alloc] at hz2); have hB3 : B < w2.heap.size := (by omega)))
      refine wp_loop_rounds 3 ?_
      all_goals (try (rw [rounds_succ]; go_wp2_with (first | (go_at_call 61; refine (limits_any _ _ (by repeat (first | assumption | refine Tab.alloc ?_ _))).mono ?_; rintro e w1 ⟨rfl, hk1⟩; obtain ⟨hc1, hf1⟩ := bcell hk1.2; have ht1 := hk1.1; have hz1 := hk1.2.size; (try simp only [World.size_alloc] at hz1); have hB1 : B < w1.heap.size := (by omega); have hB2 : B < w1.heap.size + 1 := (by omega)) | (go_at_call 16; refine (IsWord_any _ _ _ (by repeat (first | assumption | refine Tab.alloc ?_ _))).mono ?_; rintro e w2 ⟨rfl, hk2⟩; obtain ⟨hc2, hf2⟩ := bcell hk2.2; have ht2 := hk2.1; have hz2 := hk2.2.size; (try simp only [World.size_alloc] at hz2); have hB3 : B < w2.heap.size := (by omega)))))
      all_goals (try (rw [rounds_succ]; go_wp2_with (first | (go_at_call 61; refine (limits_any _ _ (by repeat (first | assumption | refine Tab.alloc ?_ _))).mono ?_; rintro e w1 ⟨rfl, hk1⟩; obtain ⟨hc1, hf1⟩ := bcell hk1.2; have ht1 := hk1.1; have hz1 := hk1.2.size; (try simp only [World.size_alloc] at hz1); have hB1 : B < w1.heap.size := (by omega); have hB2 : B < w1.heap.size + 1 := (by omega)) | (go_at_call 16; refine (IsWord_any _ _ _ (by repeat (first | assumption | refine Tab.alloc ?_ _))).mono ?_; rintro e w2 ⟨rfl, hk2⟩; obtain ⟨hc2, hf2⟩ := bcell hk2.2; have ht2 := hk2.1; have hz2 := hk2.2.size; (try simp only [World.size_alloc] at hz2); have hB3 : B < w2.heap.size := (by omega)))))
      all_goals (try (rw [rounds_succ]; go_wp2_with (first | (go_at_call 61; refine (limits_any _ _ (by repeat (first | assumption | refine Tab.alloc ?_ _))).mono ?_; rintro e w1 ⟨rfl, hk1⟩; obtain ⟨hc1, hf1⟩ := bcell hk1.2; have ht1 := hk1.1; have hz1 := hk1.2.size; (try simp only [World.size_alloc] at hz1); have hB1 : B < w1.heap.size := (by omega); have hB2 : B < w1.heap.size + 1 := (by omega)) | (go_at_call 16; refine (IsWord_any _ _ _ (by repeat (first | assumption | refine Tab.alloc ?_ _))).mono ?_; rintro e w2 ⟨rfl, hk2⟩; obtain ⟨hc2, hf2⟩ := bcell hk2.2; have ht2 := hk2.1; have hz2 := hk2.2.size; (try simp only [World.size_alloc] at hz2); have hB3 : B < w2.heap.size := (by omega)))))
      go_returns
      exact ⟨by simp, (by repeat (first | assumption | exact Kept.refl ht | refine Kept.alloc ?_ _ _ | refine Kept.trans ?_ (by assumption)))⟩
end Go.Proofs.YtkehmdocjjadnaaDoor
