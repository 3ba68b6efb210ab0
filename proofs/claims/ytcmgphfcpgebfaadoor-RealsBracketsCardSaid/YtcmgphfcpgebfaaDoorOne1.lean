/- The law file's comparison of two results, and blocks that a walk adds. Condition: the tables hold what their initialisers lay. -/
import Derived.Test.YtcmgphfcpgebfaaDoorAwk
namespace Go.Proofs.YtcmgphfcpgebfaaDoor
open Go.ChangeShapes Go.WideShapes Go.ChangeAt Go.RowKit
attribute [local go_sem ↓] Go.wp_at_zero Go.wp_at_succ

theorem Inv.grow {w w' : World} {bs : List (Nat × TypeId × List Value)} (h : Inv w bs w') (t : TypeId) (l : List Value) : Inv w (bs ++ [(w'.heap.size, t, l)]) (w'.alloc (.cells l.toArray t)) := by
  refine ⟨h.kept.alloc _, fun i x hx => ?_⟩
  rcases Nat.lt_or_ge i bs.length with hl | hl
  · rw [List.getElem?_append_left hl] at hx
    exact (h.own i x hx).alloc _
  · rw [List.getElem?_append_right hl] at hx
    have hk : x = (w'.heap.size, t, l) := by
      match hk : i - bs.length, hx with
      | 0, hx => exact (Option.some.inj hx).symm
      | k + 1, hx => simp at hx
    subst hk
    exact Own.new w' t l
theorem one_any (m e x : Int) (w : World) (ht : Tab w) :
    Calls Tryd.prog 16 #[.agg #[.int .i64 m, .int .i64 e], .int .i64 x] w fun r w' => ∃ B C : Nat, r = .returned (.func (.func 49) #[] #[.pointer (some ⟨B, 0, none⟩), .pointer (some ⟨C, 0, none⟩)]) ∧
      Own w' B 29 [.int .i64 m, .int .i64 e] ∧ Own w' C 25 [.int .i64 x] ∧ Kept w w' := by
  have hlt := ht.lt
  have hlt0 := ht.lt0
  go_enter Tryd.func16, Tryd.ntmps16
  go_wp2
  go_returns
  exact ⟨_, _, rfl, (Own.new w _ [_, _]).alloc _, Own.new1 w _ _ [_], (by repeat' (first | (with_reducible assumption) | (with_reducible exact Kept.refl ht) | (with_reducible refine Kept.alloc ?_ _) | (with_reducible refine Kept.drew ?_) | (with_reducible refine Kept.drewN ?_ _) | (with_reducible refine Kept.setCell ?_ ?_ _ ?_ ?_) | (with_reducible refine Kept.trans ?_ (by assumption)) | omega | (simp; done) | (simp; omega)))⟩
theorem same_any (m e x : Int) (B C : Nat) (w : World) (ht : Tab w) (h1 : Own w B 29 [.int .i64 m, .int .i64 e]) (h2 : Own w C 25 [.int .i64 x]) :
    Calls Tryd.prog 49 #[.agg #[.int .i64 m, .int .i64 e], .int .i64 x, .pointer (some ⟨B, 0, none⟩), .pointer (some ⟨C, 0, none⟩)] w fun r w' => r = .returned (.bool true) ∧ Kept w w' := by
  have hlt := ht.lt
  have hlt0 := ht.lt0
  have c0 : w.cell? ⟨B, 0, none⟩ = some (.int .i64 m) := h1.cell 0
  have c1 : w.cell? ⟨B, 1, none⟩ = some (.int .i64 e) := h1.cell 1
  have l1 := h1.lt
  have c2 : w.cell? ⟨C, 0, none⟩ = some (.int .i64 x) := h2.cell 0
  have l2 := h2.lt
  clear h1 h2
  go_enter Tryd.func49, Tryd.ntmps49
  go_wp2
  go_returns
  exact ⟨by simp, (by repeat' (first | (with_reducible assumption) | (with_reducible exact Kept.refl ht) | (with_reducible refine Kept.alloc ?_ _) | (with_reducible refine Kept.drew ?_) | (with_reducible refine Kept.drewN ?_ _) | (with_reducible refine Kept.setCell ?_ ?_ _ ?_ ?_) | (with_reducible refine Kept.trans ?_ (by assumption)) | omega | (simp; done) | (simp; omega)))⟩
end Go.Proofs.YtcmgphfcpgebfaaDoor
