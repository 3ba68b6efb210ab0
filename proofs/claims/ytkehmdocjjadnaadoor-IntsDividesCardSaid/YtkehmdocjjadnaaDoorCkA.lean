/- The checks of a size and its operands, at a list that the call has just made. Condition: the table holds what its initialiser lays. -/
import Derived.Test.YtkehmdocjjadnaaDoorProd
namespace Go.Proofs.YtkehmdocjjadnaaDoor
open Go.RowKit
theorem checkInts1A (s a : Int) (T : TypeId) (w : World) (ht : Tab w) :
    Calls Tryd.prog 63 #[.int .i64 s, .slice (some ⟨w.heap.size, 0, none⟩) 1 1] (w.alloc (.cells #[.int .i64 a] T)) fun e w' => e = .returned (.int .i64 (ck s (isI s a))) ∧ Kept w w' :=
  (checkInts1 s a _ _ (ht.alloc _) (by simp) (by simp [go_sem])).mono fun _ _ ⟨he, hk⟩ => ⟨he, ((Kept.refl ht).alloc _ _).trans hk⟩
theorem checkInts2A (s a b : Int) (T : TypeId) (w : World) (ht : Tab w) :
    Calls Tryd.prog 63 #[.int .i64 s, .slice (some ⟨w.heap.size, 0, none⟩) 2 2] (w.alloc (.cells #[.int .i64 a, .int .i64 b] T)) fun e w' => e = .returned (.int .i64 (ck s (isI s a && isI s b))) ∧ Kept w w' :=
  (checkInts2 s a b _ _ (ht.alloc _) (by simp) (by simp [go_sem]) (by simp [go_sem])).mono fun _ _ ⟨he, hk⟩ => ⟨he, ((Kept.refl ht).alloc _ _).trans hk⟩
theorem checkWords1A (s a : Int) (T : TypeId) (w : World) (ht : Tab w) :
    Calls Tryd.prog 72 #[.int .i64 s, .slice (some ⟨w.heap.size, 0, none⟩) 1 1] (w.alloc (.cells #[.int .i64 a] T)) fun e w' => e = .returned (.int .i64 (ck s (isW s a))) ∧ Kept w w' :=
  (checkWords1 s a _ _ (ht.alloc _) (by simp) (by simp [go_sem])).mono fun _ _ ⟨he, hk⟩ => ⟨he, ((Kept.refl ht).alloc _ _).trans hk⟩
theorem checkWords2A (s a b : Int) (T : TypeId) (w : World) (ht : Tab w) :
    Calls Tryd.prog 72 #[.int .i64 s, .slice (some ⟨w.heap.size, 0, none⟩) 2 2] (w.alloc (.cells #[.int .i64 a, .int .i64 b] T)) fun e w' => e = .returned (.int .i64 (ck s (isW s a && isW s b))) ∧ Kept w w' :=
  (checkWords2 s a b _ _ (ht.alloc _) (by simp) (by simp [go_sem]) (by simp [go_sem])).mono fun _ _ ⟨he, hk⟩ => ⟨he, ((Kept.refl ht).alloc _ _).trans hk⟩
end Go.Proofs.YtkehmdocjjadnaaDoor
