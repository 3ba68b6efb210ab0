/- The program's sign of a real, and its comparison of two absolute values. Condition: the tables hold what their initialisers lay. -/
import Derived.Test.YtcmgphfcpgebfaaDoorForm
namespace Go.Proofs.YtcmgphfcpgebfaaDoor
open Go.ChangeShapes Go.WideShapes Go.ChangeAt Go.RowKit
attribute [local go_sem ↓] Go.wp_at_zero Go.wp_at_succ

def sgn (m : Int) : Int := if m < 0 then -1 else if 0 < m then 1 else 0
theorem sign_any (m e : Int) (w : World) (ht : Tab w) : Calls Tryd.prog 73 #[.agg #[.int .i64 m, .int .i64 e]] w fun x w' => x = .returned (.int .i64 (sgn m)) ∧ Kept w w' := by
  have hlt := ht.lt
  have hlt0 := ht.lt0
  rcases (by omega : m < 0 ∨ m = 0 ∨ 0 < m) with h | h | h
  · have HS : Hid (sgn m = -1) := Lib.hid (by unfold sgn; rw [if_pos h])
    have h1 : decide (m < 0) = true := decide_eq_true h
    clear h
    go_enter Tryd.func73, Tryd.ntmps73
    go_wp2
    go_returns
    exact ⟨by rw [HS.out]; rfl, (by repeat' (first | (with_reducible assumption) | (with_reducible exact Kept.refl ht) | (with_reducible refine Kept.alloc ?_ _) | (with_reducible refine Kept.drew ?_) | (with_reducible refine Kept.drewN ?_ _) | (with_reducible refine Kept.setCell ?_ ?_ _ ?_ ?_) | (with_reducible refine Kept.trans ?_ (by assumption)) | omega | (simp; done) | (simp; omega)))⟩
  · subst h
    go_enter Tryd.func73, Tryd.ntmps73
    go_wp2
    go_returns
    exact ⟨rfl, (by repeat' (first | (with_reducible assumption) | (with_reducible exact Kept.refl ht) | (with_reducible refine Kept.alloc ?_ _) | (with_reducible refine Kept.drew ?_) | (with_reducible refine Kept.drewN ?_ _) | (with_reducible refine Kept.setCell ?_ ?_ _ ?_ ?_) | (with_reducible refine Kept.trans ?_ (by assumption)) | omega | (simp; done) | (simp; omega)))⟩
  · have HS : Hid (sgn m = 1) := Lib.hid (by unfold sgn; rw [if_neg (by omega), if_pos h])
    have h1 : decide (m < 0) = false := decide_eq_false (by omega)
    have h2 : decide (0 < m) = true := decide_eq_true h
    clear h
    go_enter Tryd.func73, Tryd.ntmps73
    go_wp2
    go_returns
    exact ⟨by rw [HS.out]; rfl, (by repeat' (first | (with_reducible assumption) | (with_reducible exact Kept.refl ht) | (with_reducible refine Kept.alloc ?_ _) | (with_reducible refine Kept.drew ?_) | (with_reducible refine Kept.drewN ?_ _) | (with_reducible refine Kept.setCell ?_ ?_ _ ?_ ?_) | (with_reducible refine Kept.trans ?_ (by assumption)) | omega | (simp; done) | (simp; omega)))⟩

theorem gap_wrap {e f g : Int} (hg : e - f = g) (h0 : 0 ≤ g) (h1 : g < 18446744073709551616) : IntKind.u64.wrap (IntKind.u64.wrap e - IntKind.u64.wrap f) = g := by
  rw [IntKind.wrap_u64, IntKind.wrap_u64, IntKind.wrap_u64]
  omega

def cmpN (x y : Nat) : Int := if x < y then -1 else if y < x then 1 else 0
/-- How numbers x 10^g and y compare. -/
def cmG (x y : Nat) (g : Int) : Int := if 19 < g then 1 else cmpN (x * 10 ^ g.toNat) y
theorem cmG_far {x y : Nat} {g : Int} (h : 19 < g) : cmG x y g = 1 := by unfold cmG; rw [if_pos h]

set_option maxHeartbeats 2000000 in
theorem cmpmag_far (a e b f g : Int) (w : World) (ht : Tab w) (hg : e - f = g) (h0 : 19 < g) (h1 : g < 18446744073709551616) :
    Calls Tryd.prog 74 #[.agg #[.int .i64 a, .int .i64 e], .agg #[.int .i64 b, .int .i64 f]] w fun x w' => x = .returned (.int .i64 (cmG (mag a) (mag b) g)) ∧ Kept w w' := by
  have hlt := ht.lt
  have hlt0 := ht.lt0
  have hC := Lib.hid (cmG_far (x := mag a) (y := mag b) h0)
  have hW := gap_wrap hg (by omega) h1
  have hd : decide (e < f) = false := decide_eq_false (by omega)
  have hd2 : decide (19 < g) = true := decide_eq_true h0
  clear hg h0 h1
  go_enter Tryd.func74, Tryd.ntmps74
  go_wp2
  go_returns
  exact ⟨by rw [hC.out]; rfl, (by repeat' (first | (with_reducible assumption) | (with_reducible exact Kept.refl ht) | (with_reducible refine Kept.alloc ?_ _) | (with_reducible refine Kept.drew ?_) | (with_reducible refine Kept.drewN ?_ _) | (with_reducible refine Kept.setCell ?_ ?_ _ ?_ ?_) | (with_reducible refine Kept.trans ?_ (by assumption)) | omega | (simp; done) | (simp; omega)))⟩
