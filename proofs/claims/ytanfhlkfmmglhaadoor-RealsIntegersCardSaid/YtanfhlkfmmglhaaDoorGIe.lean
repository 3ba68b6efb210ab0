/- What the program's Entier and Round return. Condition: the tables hold what their initialisers lay. -/
import Derived.Test.YtanfhlkfmmglhaaDoorGId1
import Derived.Test.YtanfhlkfmmglhaaDoorGId2
import Derived.Test.YtanfhlkfmmglhaaDoorGId3
import Derived.Test.YtanfhlkfmmglhaaDoorGId4
import Derived.Test.YtanfhlkfmmglhaaDoorGAddo
import Derived.Test.YtanfhlkfmmglhaaDoorGRh
import Derived.Test.YtanfhlkfmmglhaaDoorGRk
import Derived.IntWalk
namespace Go.Proofs.YtanfhlkfmmglhaaDoor
open Go.ChangeShapes Go.WideShapes Go.ChangeAt Go.RowKit
attribute [local go_sem ↓] Go.wp_at_zero Go.wp_at_succ

/-- The whole part of the absolute value, and what is behind the point. -/
def iQ (a e : Int) : Nat := if 0 ≤ e then mag a * 10 ^ e.toNat else mag a / 10 ^ (-e).toNat
def iT (a e : Int) : Nat := if 0 ≤ e then 0 else tl (mag a) false (-e).toNat
def gE (a e : Int) : Bool := decide (a < 0) && decide (iT a e ≠ 0)
def gR (a e : Int) : Bool := decide (2 ≤ iT a e)
/-- What is returned for valid numbers, and for all. -/
def iV (s a e : Int) (g : Bool) : Value := if 18 < (dg (mag a) : Int) + e then .tuple #[.int .i64 0, .int .i64 11] else rP s (rI (decide (a < 0)) g (iQ a e))
def iA (s a e : Int) (g : Bool) : Value := if ckR s 0 [(a, e)] = 0 then iV s a e g else .tuple #[.int .i64 0, .int .i64 (ckR s 0 [(a, e)])]
theorem rP_form (s r : Int) : ∃ A X : Int, rP s r = .tuple #[.int .i64 A, .int .i64 X] := by
  unfold rP
  split
  · exact ⟨_, _, rfl⟩
  · exact ⟨_, _, rfl⟩
theorem iV_form (s a e : Int) (g : Bool) : ∃ A X : Int, iV s a e g = .tuple #[.int .i64 A, .int .i64 X] := by
  unfold iV
  split
  · exact ⟨_, _, rfl⟩
  · exact rP_form _ _
theorem iA_form (s a e : Int) (g : Bool) : ∃ A X : Int, iA s a e g = .tuple #[.int .i64 A, .int .i64 X] := by
  unfold iA
  split
  · exact iV_form _ _ _ _
  · exact ⟨_, _, rfl⟩
theorem iT_le (a e : Int) : iT a e ≤ 3 := by
  unfold iT
  split
  · omega
  · exact tl_le _ _ _

theorem check_one1 (s how a e : Int) (w : World) (ht : Tab w) (o1 : Obj) (la : -9223372036854775808 ≤ a) (ha : a ≤ 9223372036854775807) :
    Calls Tryd.prog 33 #[.int .i64 s, .int .i64 how, .slice (some ⟨w.heap.size + 1, 0, none⟩) 1 1] ((w.alloc o1).alloc (.cells #[.int .i64 a, .int .i64 e] 25)) fun x w' => x = .returned (.int .i64 (ckR s how [(a, e)])) ∧ Kept ((w.alloc o1).alloc (.cells #[.int .i64 a, .int .i64 e] 25)) w' := by
  have ht3 := ((ht.alloc o1).alloc (.cells #[.int .i64 a, .int .i64 e] 25))
  have hO := Own.new (w.alloc o1) 25 [.int .i64 a, .int .i64 e]
  rw [World.size_alloc] at hO
  unfold ckR
  cases hg : (isSz s && isDir how)
  · simp only [Bool.false_eq_true, if_false]
    exact check_bad s how _ _ ht3 hg
  · simp only [if_true]
    refine check_good s how [(a, e)] (w.heap.size + 1) 1 _ ht3 hg hO.lt (by simp) ?_
    intro k x hx
    match k, hx with
    | 0, hx => obtain rfl := Option.some.inj hx; exact ⟨hO.cell 0, hO.cell 1, la, ha⟩
    | k + 1, hx => simp at hx
set_option maxRecDepth 100000 in
set_option maxHeartbeats 4000000 in
theorem clE00 (t : Nat) (a : Int) (g0 : Nat) (W : World) (ht : Tab W) (c0 : W.cell? ⟨g0, 0, none⟩ = some (.int .i64 a)) (hn : a < 0) (h0 : ((t : Int) != 0) = true) :
    Calls Tryd.prog 51 #[.int .i64 (t : Int), .pointer (some ⟨g0, 0, none⟩)] W fun x w' => x = .returned (.bool true) ∧ Kept W w' := by
  have hlt := ht.lt
  have hlt0 := ht.lt0
  have _hg := cell_lt c0
  have hd : decide (a < 0) = true := decide_eq_true hn
  go_enter Tryd.func51, Tryd.ntmps51
  go_wp2
  go_returns
  exact ⟨rfl, (by repeat' (first | (with_reducible assumption) | (with_reducible exact Kept.refl ht) | (with_reducible refine Kept.alloc ?_ _) | (with_reducible refine Kept.drew ?_) | (with_reducible refine Kept.drewN ?_ _) | (with_reducible refine Kept.setCell ?_ ?_ _ ?_ ?_) | (with_reducible refine Kept.trans ?_ (by assumption)) | omega | (simp; done) | (simp; omega)))⟩
set_option maxRecDepth 100000 in
set_option maxHeartbeats 4000000 in
theorem clE01 (t : Nat) (a : Int) (g0 : Nat) (W : World) (ht : Tab W) (c0 : W.cell? ⟨g0, 0, none⟩ = some (.int .i64 a)) (hn : a < 0) (h0 : ((t : Int) != 0) = false) :
    Calls Tryd.prog 51 #[.int .i64 (t : Int), .pointer (some ⟨g0, 0, none⟩)] W fun x w' => x = .returned (.bool false) ∧ Kept W w' := by
  have hlt := ht.lt
  have hlt0 := ht.lt0
  have _hg := cell_lt c0
  have hd : decide (a < 0) = true := decide_eq_true hn
  go_enter Tryd.func51, Tryd.ntmps51
  go_wp2
  go_returns
  exact ⟨rfl, (by repeat' (first | (with_reducible assumption) | (with_reducible exact Kept.refl ht) | (with_reducible refine Kept.alloc ?_ _) | (with_reducible refine Kept.drew ?_) | (with_reducible refine Kept.drewN ?_ _) | (with_reducible refine Kept.setCell ?_ ?_ _ ?_ ?_) | (with_reducible refine Kept.trans ?_ (by assumption)) | omega | (simp; done) | (simp; omega)))⟩
set_option maxRecDepth 100000 in
set_option maxHeartbeats 4000000 in
theorem clE10 (t : Nat) (a : Int) (g0 : Nat) (W : World) (ht : Tab W) (c0 : W.cell? ⟨g0, 0, none⟩ = some (.int .i64 a)) (hn : ¬ a < 0) (_h0 : ((t : Int) != 0) = true) :
    Calls Tryd.prog 51 #[.int .i64 (t : Int), .pointer (some ⟨g0, 0, none⟩)] W fun x w' => x = .returned (.bool false) ∧ Kept W w' := by
  have hlt := ht.lt
  have hlt0 := ht.lt0
  have _hg := cell_lt c0
  have hd : decide (a < 0) = false := decide_eq_false hn
  go_enter Tryd.func51, Tryd.ntmps51
  go_wp2
  go_returns
  exact ⟨rfl, (by repeat' (first | (with_reducible assumption) | (with_reducible exact Kept.refl ht) | (with_reducible refine Kept.alloc ?_ _) | (with_reducible refine Kept.drew ?_) | (with_reducible refine Kept.drewN ?_ _) | (with_reducible refine Kept.setCell ?_ ?_ _ ?_ ?_) | (with_reducible refine Kept.trans ?_ (by assumption)) | omega | (simp; done) | (simp; omega)))⟩
set_option maxRecDepth 100000 in
set_option maxHeartbeats 4000000 in
theorem clE11 (t : Nat) (a : Int) (g0 : Nat) (W : World) (ht : Tab W) (c0 : W.cell? ⟨g0, 0, none⟩ = some (.int .i64 a)) (hn : ¬ a < 0) (_h0 : ((t : Int) != 0) = false) :
    Calls Tryd.prog 51 #[.int .i64 (t : Int), .pointer (some ⟨g0, 0, none⟩)] W fun x w' => x = .returned (.bool false) ∧ Kept W w' := by
  have hlt := ht.lt
  have hlt0 := ht.lt0
  have _hg := cell_lt c0
  have hd : decide (a < 0) = false := decide_eq_false hn
  go_enter Tryd.func51, Tryd.ntmps51
  go_wp2
  go_returns
  exact ⟨rfl, (by repeat' (first | (with_reducible assumption) | (with_reducible exact Kept.refl ht) | (with_reducible refine Kept.alloc ?_ _) | (with_reducible refine Kept.drew ?_) | (with_reducible refine Kept.drewN ?_ _) | (with_reducible refine Kept.setCell ?_ ?_ _ ?_ ?_) | (with_reducible refine Kept.trans ?_ (by assumption)) | omega | (simp; done) | (simp; omega)))⟩
theorem clE (t : Nat) (a : Int) (g0 : Nat) (W : World) (ht : Tab W) (c0 : W.cell? ⟨g0, 0, none⟩ = some (.int .i64 a)) :
    Calls Tryd.prog 51 #[.int .i64 (t : Int), .pointer (some ⟨g0, 0, none⟩)] W fun x w' => x = .returned (.bool (decide (a < 0) && decide (t ≠ 0))) ∧ Kept W w' := by
  by_cases hn : a < 0
  · by_cases h0 : t = 0
    · rw [decide_eq_true hn, decide_eq_false (by omega : ¬ t ≠ 0)]
      exact clE01 t a g0 W ht c0 hn (by rw [h0]; rfl)
    · rw [decide_eq_true hn, decide_eq_true (by omega : t ≠ 0)]
      exact clE00 t a g0 W ht c0 hn (by rw [bne_iff_ne]; omega)
  · by_cases h0 : t = 0
    · rw [decide_eq_false hn]
      exact clE11 t a g0 W ht c0 hn (by rw [h0]; rfl)
    · rw [decide_eq_false hn]
      exact clE10 t a g0 W ht c0 hn (by rw [bne_iff_ne]; omega)
set_option maxRecDepth 100000 in
set_option maxHeartbeats 4000000 in
theorem clR (t : Nat) (W : World) (ht : Tab W) :
    Calls Tryd.prog 54 #[.int .i64 (t : Int)] W fun x w' => x = .returned (.bool (decide (2 ≤ t))) ∧ Kept W w' := by
  have hlt := ht.lt
  have hlt0 := ht.lt0
  rcases (by omega : 2 ≤ t ∨ t < 2) with h | h
  · have hd : decide ((2 : Int) ≤ (t : Int)) = true := decide_eq_true (by omega)
    rw [decide_eq_true h]
    clear h
    go_enter Tryd.func54, Tryd.ntmps54
    go_wp2
    go_returns
    exact ⟨by first | rfl | simp [hd] | (simp; omega), (by repeat' (first | (with_reducible assumption) | (with_reducible exact Kept.refl ht) | (with_reducible refine Kept.alloc ?_ _) | (with_reducible refine Kept.drew ?_) | (with_reducible refine Kept.drewN ?_ _) | (with_reducible refine Kept.setCell ?_ ?_ _ ?_ ?_) | (with_reducible refine Kept.trans ?_ (by assumption)) | omega | (simp; done) | (simp; omega)))⟩
  · have hd : decide ((2 : Int) ≤ (t : Int)) = false := decide_eq_false (by omega)
    rw [decide_eq_false (by omega : ¬ 2 ≤ t)]
    clear h
    go_enter Tryd.func54, Tryd.ntmps54
    go_wp2
    go_returns
    exact ⟨by first | rfl | simp [hd] | (simp; omega), (by repeat' (first | (with_reducible assumption) | (with_reducible exact Kept.refl ht) | (with_reducible refine Kept.alloc ?_ _) | (with_reducible refine Kept.drew ?_) | (with_reducible refine Kept.drewN ?_ _) | (with_reducible refine Kept.setCell ?_ ?_ _ ?_ ?_) | (with_reducible refine Kept.trans ?_ (by assumption)) | omega | (simp; done) | (simp; omega)))⟩
set_option maxRecDepth 100000 in
set_option maxHeartbeats 4000000 in
theorem int_far (s a e d : Int) (F : Value) (w : World) (ht : Tab w) (la : -1000000000000000000 < a) (ha : a < 1000000000000000000) (le : -400 ≤ e) (he : e ≤ 418) (hd : (dg (mag a) : Int) = d) (h : 18 < d + e) :
    Calls Tryd.prog 50 #[.int .i64 s, .agg #[.int .i64 a, .int .i64 e], F] w fun x w' => x = .returned (.tuple #[.int .i64 0, .int .i64 11]) ∧ Kept w w' := by
  have hlt := ht.lt
  have hlt0 := ht.lt0
  have hn0 : mag a < 1000000000000000000 := by unfold mag; omega
  have hd2 : d ≤ 18 := by rw [← hd]; have := (dg_iff (mag a) 18).2 (by rw [show (10 : Nat) ^ 18 = 1000000000000000000 by decide]; exact hn0); omega
  have hd0 : 0 ≤ d := by omega
  have h1 := fun w => magnitude_any a w (by omega) (by omega)
  have h2 := fun w ht => digitsOf_any (mag a) w ht (by omega)
  rw [hd] at h2
  generalize mag a = n at h1 h2
  have H1 := Lib.hid h1
  have H2 := Lib.hid h2
  clear h1 h2 hd hn0
  have HP : Hid (∀ w', Inv w [(w.heap.size, 25, [.int .i64 a, .int .i64 e])] w' → Inv w [(w.heap.size, 25, [.int .i64 a, .int .i64 e])] w' ∧ Tab w' ∧ w'.cell? ⟨w.heap.size, 0, none⟩ = some (.int .i64 a) ∧ w'.cell? ⟨w.heap.size, 1, none⟩ = some (.int .i64 e)) := Lib.hid (fun w' h => ⟨h, h.kept.1, (h.own 0 _ rfl).cell 0, (h.own 0 _ rfl).cell 1⟩)
  go_enter Tryd.func50, Tryd.ntmps50
  go_upto_region 1 with fail
  have hI := Inv.one ht 25 [.int .i64 a, .int .i64 e]
  have q1 : IntKind.i64.wrap (d + e) = d + e := IntWalk.i64_in _ (by omega)
  go_region_held3 (fun w' => Inv w [(w.heap.size, 25, [.int .i64 a, .int .i64 e])] w' ∧ Tab w' ∧ w'.cell? ⟨w.heap.size, 0, none⟩ = some (.int .i64 a) ∧ w'.cell? ⟨w.heap.size, 1, none⟩ = some (.int .i64 e)) ((refine HP.out _ ?_; repeat' (first | (with_reducible assumption) | (with_reducible refine Inv.drew ?_) | (with_reducible refine Inv.alloc ?_ _) | (with_reducible refine Inv.call ?_ (by assumption)) | (with_reducible refine Inv.far ?_ ?_ ?_ ?_ ?_ _) | omega | (simp; done) | (simp; omega)))) (first | (go_at_call 67; (with_reducible refine (H1.out _).mono ?_); rintro e w' ⟨rfl, rfl⟩) | (go_at_call 86; (with_reducible refine (H2.out _ (by repeat' (first | (with_reducible assumption) | (with_reducible refine Tab.alloc ?_ _) | (with_reducible refine Tab.drew ?_) | (with_reducible refine Tab.drewN ?_ _) | (with_reducible refine Tab.setCell ?_ ?_ ?_ _) | omega | (simp; done) | (simp; omega)))).mono ?_); rintro e w' ⟨rfl, rfl⟩))
  clear q1
  have h19 : decide (19 ≤ d + e) = true := decide_eq_true (by omega)
  go_wp2_with fail
  go_ret2
  exact ⟨rfl, (by repeat' (first | (with_reducible assumption) | (with_reducible exact Kept.refl ht) | (with_reducible refine Kept.alloc ?_ _) | (with_reducible refine Kept.drew ?_) | (with_reducible refine Kept.drewN ?_ _) | (with_reducible refine Kept.setCell ?_ ?_ _ ?_ ?_) | (with_reducible refine Kept.trans ?_ (by assumption)) | omega | (simp; done) | (simp; omega)))⟩
theorem intE (s a e : Int) (w : World) (ht : Tab w) (hs : Szs w) (hv : vld s a e = true) (g0 : Nat) (c0 : w.cell? ⟨g0, 0, none⟩ = some (.int .i64 a)) :
    Calls Tryd.prog 50 #[.int .i64 s, .agg #[.int .i64 a, .int .i64 e], .func (.func 51) #[] #[.pointer (some ⟨g0, 0, none⟩)]] w fun x w' => x = .returned (iV s a e (gE a e)) ∧ Kept w w' := by
  obtain ⟨v1, v2, v3, v4, v5, v6⟩ := vld_facts hv
  unfold iV
  by_cases hf : 18 < (dg (mag a) : Int) + e
  · rw [if_pos hf]
    exact int_far s a e _ _ w ht v5 v6 v3 v4 rfl hf
  · rw [if_neg hf]
    have hd18 : dg (mag a) ≤ 18 := (dg_iff (mag a) 18).2 (by rw [show (10 : Nat) ^ 18 = 1000000000000000000 by decide]; exact v2)
    rcases (by omega : 0 ≤ e ∨ e < 0) with h | h
    · obtain ⟨j, rfl⟩ : ∃ j : Nat, e = (j : Int) := ⟨e.toNat, by omega⟩
      exact int_1 s a j (mag a) (iQ a (j : Int)) (iT a (j : Int)) g0 (decide (a < 0)) (gE a (j : Int)) _ _ rfl w ht hs v1 v5 v6 rfl rfl (by omega) (by unfold iQ; rw [if_pos h]; rfl) (by unfold iT; rw [if_pos h]) (Lib.hid (fun W hk => clE _ a g0 W hk.1 (by rw [hk.2.cell (p := ⟨g0, 0, none⟩) (cell_lt c0)]; exact c0))) rfl
    · obtain ⟨j, rfl⟩ : ∃ j : Nat, e = -(j : Int) := ⟨(-e).toNat, by omega⟩
      have hj : (-(-(j : Int))).toNat = j := by omega
      exact int_2 s a j (mag a) (iQ a (-(j : Int))) (iT a (-(j : Int))) g0 (decide (a < 0)) (gE a (-(j : Int))) _ _ rfl w ht hs v1 v5 v6 rfl rfl (by omega) (by omega) hd18 (by unfold iQ; rw [if_neg (by omega), hj]) (by unfold iT; rw [if_neg (by omega), hj]) (Lib.hid (fun W hk => clE _ a g0 W hk.1 (by rw [hk.2.cell (p := ⟨g0, 0, none⟩) (cell_lt c0)]; exact c0))) rfl
theorem intR (s a e : Int) (w : World) (ht : Tab w) (hs : Szs w) (hv : vld s a e = true) :
    Calls Tryd.prog 50 #[.int .i64 s, .agg #[.int .i64 a, .int .i64 e], .func (.func 54) #[] #[]] w fun x w' => x = .returned (iV s a e (gR a e)) ∧ Kept w w' := by
  obtain ⟨v1, v2, v3, v4, v5, v6⟩ := vld_facts hv
  unfold iV
  by_cases hf : 18 < (dg (mag a) : Int) + e
  · rw [if_pos hf]
    exact int_far s a e _ _ w ht v5 v6 v3 v4 rfl hf
  · rw [if_neg hf]
    have hd18 : dg (mag a) ≤ 18 := (dg_iff (mag a) 18).2 (by rw [show (10 : Nat) ^ 18 = 1000000000000000000 by decide]; exact v2)
    rcases (by omega : 0 ≤ e ∨ e < 0) with h | h
    · obtain ⟨j, rfl⟩ : ∃ j : Nat, e = (j : Int) := ⟨e.toNat, by omega⟩
      exact int_3 s a j (mag a) (iQ a (j : Int)) (iT a (j : Int)) 0 (decide (a < 0)) (gR a (j : Int)) _ _ rfl w ht hs v1 v5 v6 rfl rfl (by omega) (by unfold iQ; rw [if_pos h]; rfl) (by unfold iT; rw [if_pos h]) (Lib.hid (fun W hk => clR _ W hk.1)) rfl
    · obtain ⟨j, rfl⟩ : ∃ j : Nat, e = -(j : Int) := ⟨(-e).toNat, by omega⟩
      have hj : (-(-(j : Int))).toNat = j := by omega
      exact int_4 s a j (mag a) (iQ a (-(j : Int))) (iT a (-(j : Int))) 0 (decide (a < 0)) (gR a (-(j : Int))) _ _ rfl w ht hs v1 v5 v6 rfl rfl (by omega) (by omega) hd18 (by unfold iQ; rw [if_neg (by omega), hj]) (by unfold iT; rw [if_neg (by omega), hj]) (Lib.hid (fun W hk => clR _ W hk.1)) rfl
set_option maxRecDepth 100000 in
set_option maxHeartbeats 4000000 in
theorem E_bad (s a e c : Int) (w : World) (ht : Tab w) (la : -9223372036854775808 ≤ a) (ha : a ≤ 9223372036854775807) (hc : ckR s 0 [(a, e)] = c) (h0 : (c != 0) = true) :
    Calls Tryd.prog 21 #[.int .i64 s, .agg #[.int .i64 a, .int .i64 e]] w fun x w' => x = .returned (.tuple #[.int .i64 0, .int .i64 c]) ∧ Kept w w' := by
  have hlt := ht.lt
  have hlt0 := ht.lt0
  have hck := fun o1 => check_one1 s 0 a e w ht o1 la ha
  rw [hc] at hck
  have HC := Lib.hid hck
  clear hck hc
  go_enter Tryd.func21, Tryd.ntmps21
  go_wp2_with (first | (go_at_call 33; (with_reducible refine (HC.out _).mono ?_); rintro e w1 ⟨rfl, hk1⟩; obtain ⟨hc1, hf1⟩ := bcell hk1.2; have ht1 := hk1.1; have hz1 := hk1.2.size; (try simp only [World.size_alloc] at hz1); (try simp only [sz_drew] at hz1); (try simp only [sz_drewN] at hz1); (try simp only [World.size_alloc] at hz1); (try simp only [sz_drew] at hc1 hf1); (try simp only [sz_drewN] at hc1 hf1); (try have hw1 : w.heap.size < w1.heap.size := by omega); (try have hv1 : w.heap.size + 1 < w1.heap.size := by omega); (try have hu1 : w.heap.size + 2 < w1.heap.size := by omega)))
  go_ret2
  exact ⟨rfl, (by repeat' (first | (with_reducible assumption) | (with_reducible exact Kept.refl ht) | (with_reducible refine Kept.alloc ?_ _) | (with_reducible refine Kept.drew ?_) | (with_reducible refine Kept.drewN ?_ _) | (with_reducible refine Kept.setCell ?_ ?_ _ ?_ ?_) | (with_reducible refine Kept.trans ?_ (by assumption)) | omega | (simp; done) | (simp; omega)))⟩
set_option maxRecDepth 100000 in
set_option maxHeartbeats 4000000 in
theorem E_good (s a e A X : Int) (w : World) (ht : Tab w) (hs : Szs w) (hc : ckR s 0 [(a, e)] = 0) (hV : iV s a e (gE a e) = .tuple #[.int .i64 A, .int .i64 X]) :
    Calls Tryd.prog 21 #[.int .i64 s, .agg #[.int .i64 a, .int .i64 e]] w fun x w' => x = .returned (.tuple #[.int .i64 A, .int .i64 X]) ∧ Kept w w' := by
  have hlt := ht.lt
  have hlt0 := ht.lt0
  obtain ⟨_, v1⟩ := ck1_facts hc
  obtain ⟨_, _, _, _, a4, a5⟩ := vld_facts v1
  have hck := fun o1 => check_one1 s 0 a e w ht o1 (by omega) (by omega)
  rw [hc] at hck
  have HC := Lib.hid hck
  have hin := fun (W : World) (hk : Kept w W) (c0 : W.cell? ⟨w.heap.size, 0, none⟩ = some (.int .i64 a)) => intE s a e W hk.1 (hs.call hk) v1 w.heap.size c0
  rw [hV] at hin
  have HINT := Lib.hid hin
  clear hck hc v1 hin hV hs
  go_enter Tryd.func21, Tryd.ntmps21
  go_upto_region 4 with (first | (go_at_call 33; (with_reducible refine (HC.out _).mono ?_); rintro e w1 ⟨rfl, hk1⟩; obtain ⟨hc1, hf1⟩ := bcell hk1.2; have ht1 := hk1.1; have hz1 := hk1.2.size; (try simp only [World.size_alloc] at hz1); (try simp only [sz_drew] at hz1); (try simp only [sz_drewN] at hz1); (try simp only [World.size_alloc] at hz1); (try simp only [sz_drew] at hc1 hf1); (try simp only [sz_drewN] at hc1 hf1); (try have hw1 : w.heap.size < w1.heap.size := by omega); (try have hv1 : w.heap.size + 1 < w1.heap.size := by omega); (try have hu1 : w.heap.size + 2 < w1.heap.size := by omega)))
  have hI := ((Inv.one ht 25 [.int .i64 a, .int .i64 e]).alloc _).call hk1
  clear hc1 hf1
  (have x0 : w1.cell? ⟨w.heap.size, 0, none⟩ = some (.int .i64 a) := (hI.own 0 _ rfl).cell 0; have x1 : w1.cell? ⟨w.heap.size, 1, none⟩ = some (.int .i64 e) := (hI.own 0 _ rfl).cell 1; have xf := fun i => (hI.own 0 _ rfl).frozen i; have xl : w.heap.size < w1.heap.size := (hI.own 0 _ rfl).lt)
  have c0 := x0
  have hk1' := hI.kept
  clear hI
  go_wp2_with (first | (go_at_call 50; (with_reducible refine (HINT.out _ (by repeat' (first | (with_reducible assumption) | (with_reducible exact Kept.refl ht) | (with_reducible refine Kept.alloc ?_ _) | (with_reducible refine Kept.drew ?_) | (with_reducible refine Kept.drewN ?_ _) | (with_reducible refine Kept.setCell ?_ ?_ _ ?_ ?_) | (with_reducible refine Kept.trans ?_ (by assumption)) | omega | (simp; done) | (simp; omega))) c0).mono ?_); rintro e w2 ⟨rfl, hk2⟩))
  go_ret2
  exact ⟨rfl, (by repeat' (first | (with_reducible assumption) | (with_reducible exact Kept.refl ht) | (with_reducible refine Kept.alloc ?_ _) | (with_reducible refine Kept.drew ?_) | (with_reducible refine Kept.drewN ?_ _) | (with_reducible refine Kept.setCell ?_ ?_ _ ?_ ?_) | (with_reducible refine Kept.trans ?_ (by assumption)) | omega | (simp; done) | (simp; omega)))⟩
theorem pent_any (s a e : Int) (w : World) (ht : Tab w) (hs : Szs w) (la : -9223372036854775808 ≤ a) (ha : a ≤ 9223372036854775807) :
    Calls Tryd.prog 21 #[.int .i64 s, .agg #[.int .i64 a, .int .i64 e]] w fun x w' => x = .returned (iA s a e (gE a e)) ∧ Kept w w' := by
  unfold iA
  by_cases hc : ckR s 0 [(a, e)] = 0
  · rw [if_pos hc]
    obtain ⟨A, X, h⟩ := iV_form s a e (gE a e)
    rw [h]
    exact E_good s a e A X w ht hs hc h
  · rw [if_neg hc]
    exact E_bad s a e _ w ht la ha rfl (by rw [bne_iff_ne]; exact hc)
set_option maxRecDepth 100000 in
set_option maxHeartbeats 4000000 in
theorem R_bad (s a e c : Int) (w : World) (ht : Tab w) (la : -9223372036854775808 ≤ a) (ha : a ≤ 9223372036854775807) (hc : ckR s 0 [(a, e)] = c) (h0 : (c != 0) = true) :
    Calls Tryd.prog 23 #[.int .i64 s, .agg #[.int .i64 a, .int .i64 e]] w fun x w' => x = .returned (.tuple #[.int .i64 0, .int .i64 c]) ∧ Kept w w' := by
  have hlt := ht.lt
  have hlt0 := ht.lt0
  have hck := fun o1 => check_one1 s 0 a e w ht o1 la ha
  rw [hc] at hck
  have HC := Lib.hid hck
  clear hck hc
  go_enter Tryd.func23, Tryd.ntmps23
  go_wp2_with (first | (go_at_call 33; (with_reducible refine (HC.out _).mono ?_); rintro e w1 ⟨rfl, hk1⟩; obtain ⟨hc1, hf1⟩ := bcell hk1.2; have ht1 := hk1.1; have hz1 := hk1.2.size; (try simp only [World.size_alloc] at hz1); (try simp only [sz_drew] at hz1); (try simp only [sz_drewN] at hz1); (try simp only [World.size_alloc] at hz1); (try simp only [sz_drew] at hc1 hf1); (try simp only [sz_drewN] at hc1 hf1); (try have hw1 : w.heap.size < w1.heap.size := by omega); (try have hv1 : w.heap.size + 1 < w1.heap.size := by omega); (try have hu1 : w.heap.size + 2 < w1.heap.size := by omega)))
  go_ret2
  exact ⟨rfl, (by repeat' (first | (with_reducible assumption) | (with_reducible exact Kept.refl ht) | (with_reducible refine Kept.alloc ?_ _) | (with_reducible refine Kept.drew ?_) | (with_reducible refine Kept.drewN ?_ _) | (with_reducible refine Kept.setCell ?_ ?_ _ ?_ ?_) | (with_reducible refine Kept.trans ?_ (by assumption)) | omega | (simp; done) | (simp; omega)))⟩
set_option maxRecDepth 100000 in
set_option maxHeartbeats 4000000 in
theorem R_good (s a e A X : Int) (w : World) (ht : Tab w) (hs : Szs w) (hc : ckR s 0 [(a, e)] = 0) (hV : iV s a e (gR a e) = .tuple #[.int .i64 A, .int .i64 X]) :
    Calls Tryd.prog 23 #[.int .i64 s, .agg #[.int .i64 a, .int .i64 e]] w fun x w' => x = .returned (.tuple #[.int .i64 A, .int .i64 X]) ∧ Kept w w' := by
  have hlt := ht.lt
  have hlt0 := ht.lt0
  obtain ⟨_, v1⟩ := ck1_facts hc
  obtain ⟨_, _, _, _, a4, a5⟩ := vld_facts v1
  have hck := fun o1 => check_one1 s 0 a e w ht o1 (by omega) (by omega)
  rw [hc] at hck
  have HC := Lib.hid hck
  have hin := fun (W : World) (hk : Kept w W) => intR s a e W hk.1 (hs.call hk) v1
  rw [hV] at hin
  have HINT := Lib.hid hin
  clear hck hc v1 hin hV hs
  go_enter Tryd.func23, Tryd.ntmps23
  go_upto_region 4 with (first | (go_at_call 33; (with_reducible refine (HC.out _).mono ?_); rintro e w1 ⟨rfl, hk1⟩; obtain ⟨hc1, hf1⟩ := bcell hk1.2; have ht1 := hk1.1; have hz1 := hk1.2.size; (try simp only [World.size_alloc] at hz1); (try simp only [sz_drew] at hz1); (try simp only [sz_drewN] at hz1); (try simp only [World.size_alloc] at hz1); (try simp only [sz_drew] at hc1 hf1); (try simp only [sz_drewN] at hc1 hf1); (try have hw1 : w.heap.size < w1.heap.size := by omega); (try have hv1 : w.heap.size + 1 < w1.heap.size := by omega); (try have hu1 : w.heap.size + 2 < w1.heap.size := by omega)))
  have hI := ((Inv.one ht 25 [.int .i64 a, .int .i64 e]).alloc _).call hk1
  clear hc1 hf1
  (have x0 : w1.cell? ⟨w.heap.size, 0, none⟩ = some (.int .i64 a) := (hI.own 0 _ rfl).cell 0; have x1 : w1.cell? ⟨w.heap.size, 1, none⟩ = some (.int .i64 e) := (hI.own 0 _ rfl).cell 1; have xf := fun i => (hI.own 0 _ rfl).frozen i; have xl : w.heap.size < w1.heap.size := (hI.own 0 _ rfl).lt)
  have c0 := x0
  have hk1' := hI.kept
  clear hI
  go_wp2_with (first | (go_at_call 50; (with_reducible refine (HINT.out _ (by repeat' (first | (with_reducible assumption) | (with_reducible exact Kept.refl ht) | (with_reducible refine Kept.alloc ?_ _) | (with_reducible refine Kept.drew ?_) | (with_reducible refine Kept.drewN ?_ _) | (with_reducible refine Kept.setCell ?_ ?_ _ ?_ ?_) | (with_reducible refine Kept.trans ?_ (by assumption)) | omega | (simp; done) | (simp; omega))) ).mono ?_); rintro e w2 ⟨rfl, hk2⟩))
  go_ret2
  exact ⟨rfl, (by repeat' (first | (with_reducible assumption) | (with_reducible exact Kept.refl ht) | (with_reducible refine Kept.alloc ?_ _) | (with_reducible refine Kept.drew ?_) | (with_reducible refine Kept.drewN ?_ _) | (with_reducible refine Kept.setCell ?_ ?_ _ ?_ ?_) | (with_reducible refine Kept.trans ?_ (by assumption)) | omega | (simp; done) | (simp; omega)))⟩
theorem prnd_any (s a e : Int) (w : World) (ht : Tab w) (hs : Szs w) (la : -9223372036854775808 ≤ a) (ha : a ≤ 9223372036854775807) :
    Calls Tryd.prog 23 #[.int .i64 s, .agg #[.int .i64 a, .int .i64 e]] w fun x w' => x = .returned (iA s a e (gR a e)) ∧ Kept w w' := by
  unfold iA
  by_cases hc : ckR s 0 [(a, e)] = 0
  · rw [if_pos hc]
    obtain ⟨A, X, h⟩ := iV_form s a e (gR a e)
    rw [h]
    exact R_good s a e A X w ht hs hc h
  · rw [if_neg hc]
    exact R_bad s a e _ w ht la ha rfl (by rw [bne_iff_ne]; exact hc)
end Go.Proofs.YtanfhlkfmmglhaaDoor
/- What the reference's Entier and Round return. Condition: the tables hold what their initialisers lay. -/
namespace Go.Proofs.YtanfhlkfmmglhaaDoor
open Go.ChangeShapes Go.WideShapes Go.ChangeAt Go.RowKit
attribute [local go_sem ↓] Go.wp_at_zero Go.wp_at_succ

theorem isI_o {s : Int} (h1 : s ≠ -1) (h2 : s ≠ 0) (n : Int) : isI s n = decide (-999999999999999999 ≤ n ∧ n ≤ 999999999999999999) := by unfold isI mx; rw [if_neg h1, if_neg h2]
theorem sg_ways {a M : Int} {q : Nat} (h : sg (decide (a < 0)) q = M) : decide (a < 0) = true ∧ M = -(q : Int) ∨ decide (a < 0) = false ∧ M = (q : Int) := by
  subst h
  cases decide (a < 0)
  · exact Or.inr ⟨rfl, rfl⟩
  · exact Or.inl ⟨rfl, rfl⟩
theorem rest_tl (n j : Nat) : (cutL n j false = true ∧ cutS n j false + 1 = (tl n false (j + 1) : Int) ∧ tl n false (j + 1) ≠ 0 ∨ cutL n j false = false ∧ tl n false (j + 1) = 0) ∧ 0 ≤ cutS n j false ∧ cutS n j false ≤ 2 := by
  obtain ⟨h1, h2, h3⟩ := cut_tl n j false
  have h4 := tl_le n false (j + 1)
  have h5 : 0 ≤ cutS n j false ∧ cutS n j false ≤ 2 := by
    unfold cutS
    split
    · omega
    · rcases cmpN_or (n % 10 ^ (j + 1)) (5 * 10 ^ j) with h | h | h <;> rw [h] <;> omega
  refine ⟨?_, h5⟩
  generalize cutS n j false = S at *
  generalize tl n false (j + 1) = T at *
  cases h : cutL n j false
  · rw [h] at h3
    refine Or.inr ⟨rfl, ?_⟩
    by_cases hT : T = 0
    · exact hT
    · exact absurd (h3.2 hT) (by decide)
  · rw [h] at h3
    have := h3.1 rfl
    refine Or.inl ⟨rfl, ?_, this⟩
    omega
set_option maxRecDepth 100000 in
set_option maxHeartbeats 4000000 in
theorem within_a (n : Int) (w : World) (ht : Tab w) :
    Calls Tryd.prog 53 #[.int .i64 (-1), .int .i64 n] w fun x w' => x = .returned (rP (-1) n) ∧ Kept w w' := by
  have hlt := ht.lt
  have hlt0 := ht.lt0
  have hn : rP (-1) n = .tuple #[.int .i64 n, .int .i64 0] ∧ -32767 ≤ n ∧ n ≤ 32767 ∨ rP (-1) n = .tuple #[.int .i64 0, .int .i64 11] ∧ n < -32767 ∧ n ≤ 32767 ∨ rP (-1) n = .tuple #[.int .i64 0, .int .i64 11] ∧ -32767 ≤ n ∧ 32767 < n := by
    by_cases p : -32767 ≤ n
    · by_cases q : n ≤ 32767
      · exact Or.inl ⟨rP_yes (by rw [isI_a]; exact decide_eq_true ⟨p, q⟩), p, q⟩
      · exact Or.inr (Or.inr ⟨rP_no (by rw [isI_a]; exact decide_eq_false (fun h => q h.2)), p, by omega⟩)
    · exact Or.inr (Or.inl ⟨rP_no (by rw [isI_a]; exact decide_eq_false (fun h => p h.1)), by omega, by omega⟩)
  have hm : rP (-1) n = .tuple #[.int .i64 n, .int .i64 0] ∧ decide (n < -32767) = false ∧ decide (32767 < n) = false ∨ rP (-1) n = .tuple #[.int .i64 0, .int .i64 11] ∧ decide (n < -32767) = true ∧ decide (32767 < n) = false ∨ rP (-1) n = .tuple #[.int .i64 0, .int .i64 11] ∧ decide (n < -32767) = false ∧ decide (32767 < n) = true := by
    rcases hn with ⟨hp, a1, a2⟩ | ⟨hp, a1, a2⟩ | ⟨hp, a1, a2⟩
    · exact Or.inl ⟨hp, decide_eq_false (by omega), decide_eq_false (by omega)⟩
    · exact Or.inr (Or.inl ⟨hp, decide_eq_true (by omega), decide_eq_false (by omega)⟩)
    · exact Or.inr (Or.inr ⟨hp, decide_eq_false (by omega), decide_eq_true (by omega)⟩)
  clear hn
  rcases hm with ⟨hp, a1, a2⟩ | ⟨hp, a1, a2⟩ | ⟨hp, a1, a2⟩
  all_goals
    rw [hp]
    clear hp
    go_enter Tryd.func53, Tryd.ntmps53
    go_wp2
    go_ret2
    exact ⟨rfl, (by repeat' (first | (with_reducible assumption) | (with_reducible exact Kept.refl ht) | (with_reducible refine Kept.alloc ?_ _) | (with_reducible refine Kept.drew ?_) | (with_reducible refine Kept.drewN ?_ _) | (with_reducible refine Kept.setCell ?_ ?_ _ ?_ ?_) | (with_reducible refine Kept.trans ?_ (by assumption)) | omega | (simp; done) | (simp; omega)))⟩
set_option maxRecDepth 100000 in
set_option maxHeartbeats 4000000 in
theorem within_b (n : Int) (w : World) (ht : Tab w) :
    Calls Tryd.prog 53 #[.int .i64 0, .int .i64 n] w fun x w' => x = .returned (rP 0 n) ∧ Kept w w' := by
  have hlt := ht.lt
  have hlt0 := ht.lt0
  have hn : rP 0 n = .tuple #[.int .i64 n, .int .i64 0] ∧ -2147483647 ≤ n ∧ n ≤ 2147483647 ∨ rP 0 n = .tuple #[.int .i64 0, .int .i64 11] ∧ n < -2147483647 ∧ n ≤ 2147483647 ∨ rP 0 n = .tuple #[.int .i64 0, .int .i64 11] ∧ -2147483647 ≤ n ∧ 2147483647 < n := by
    by_cases p : -2147483647 ≤ n
    · by_cases q : n ≤ 2147483647
      · exact Or.inl ⟨rP_yes (by rw [isI_b]; exact decide_eq_true ⟨p, q⟩), p, q⟩
      · exact Or.inr (Or.inr ⟨rP_no (by rw [isI_b]; exact decide_eq_false (fun h => q h.2)), p, by omega⟩)
    · exact Or.inr (Or.inl ⟨rP_no (by rw [isI_b]; exact decide_eq_false (fun h => p h.1)), by omega, by omega⟩)
  have hm : rP 0 n = .tuple #[.int .i64 n, .int .i64 0] ∧ decide (n < -2147483647) = false ∧ decide (2147483647 < n) = false ∨ rP 0 n = .tuple #[.int .i64 0, .int .i64 11] ∧ decide (n < -2147483647) = true ∧ decide (2147483647 < n) = false ∨ rP 0 n = .tuple #[.int .i64 0, .int .i64 11] ∧ decide (n < -2147483647) = false ∧ decide (2147483647 < n) = true := by
    rcases hn with ⟨hp, a1, a2⟩ | ⟨hp, a1, a2⟩ | ⟨hp, a1, a2⟩
    · exact Or.inl ⟨hp, decide_eq_false (by omega), decide_eq_false (by omega)⟩
    · exact Or.inr (Or.inl ⟨hp, decide_eq_true (by omega), decide_eq_false (by omega)⟩)
    · exact Or.inr (Or.inr ⟨hp, decide_eq_false (by omega), decide_eq_true (by omega)⟩)
  clear hn
  rcases hm with ⟨hp, a1, a2⟩ | ⟨hp, a1, a2⟩ | ⟨hp, a1, a2⟩
  all_goals
    rw [hp]
    clear hp
    go_enter Tryd.func53, Tryd.ntmps53
    go_wp2
    go_ret2
    exact ⟨rfl, (by repeat' (first | (with_reducible assumption) | (with_reducible exact Kept.refl ht) | (with_reducible refine Kept.alloc ?_ _) | (with_reducible refine Kept.drew ?_) | (with_reducible refine Kept.drewN ?_ _) | (with_reducible refine Kept.setCell ?_ ?_ _ ?_ ?_) | (with_reducible refine Kept.trans ?_ (by assumption)) | omega | (simp; done) | (simp; omega)))⟩
set_option maxRecDepth 100000 in
set_option maxHeartbeats 4000000 in
theorem within_o (s : Int) (n : Int) (w : World) (ht : Tab w) (h1 : s ≠ -1) (h2 : s ≠ 0) :
    Calls Tryd.prog 53 #[.int .i64 s, .int .i64 n] w fun x w' => x = .returned (rP s n) ∧ Kept w w' := by
  have hlt := ht.lt
  have hlt0 := ht.lt0
  have g1 : (s == -1) = false := by rw [beq_eq_false_iff_ne]; exact h1
  have g2 : (s == 0) = false := by rw [beq_eq_false_iff_ne]; exact h2
  have hn : rP s n = .tuple #[.int .i64 n, .int .i64 0] ∧ -999999999999999999 ≤ n ∧ n ≤ 999999999999999999 ∨ rP s n = .tuple #[.int .i64 0, .int .i64 11] ∧ n < -999999999999999999 ∧ n ≤ 999999999999999999 ∨ rP s n = .tuple #[.int .i64 0, .int .i64 11] ∧ -999999999999999999 ≤ n ∧ 999999999999999999 < n := by
    by_cases p : -999999999999999999 ≤ n
    · by_cases q : n ≤ 999999999999999999
      · exact Or.inl ⟨rP_yes (by rw [isI_o h1 h2]; exact decide_eq_true ⟨p, q⟩), p, q⟩
      · exact Or.inr (Or.inr ⟨rP_no (by rw [isI_o h1 h2]; exact decide_eq_false (fun h => q h.2)), p, by omega⟩)
    · exact Or.inr (Or.inl ⟨rP_no (by rw [isI_o h1 h2]; exact decide_eq_false (fun h => p h.1)), by omega, by omega⟩)
  clear h1 h2
  have hm : rP s n = .tuple #[.int .i64 n, .int .i64 0] ∧ decide (n < -999999999999999999) = false ∧ decide (999999999999999999 < n) = false ∨ rP s n = .tuple #[.int .i64 0, .int .i64 11] ∧ decide (n < -999999999999999999) = true ∧ decide (999999999999999999 < n) = false ∨ rP s n = .tuple #[.int .i64 0, .int .i64 11] ∧ decide (n < -999999999999999999) = false ∧ decide (999999999999999999 < n) = true := by
    rcases hn with ⟨hp, a1, a2⟩ | ⟨hp, a1, a2⟩ | ⟨hp, a1, a2⟩
    · exact Or.inl ⟨hp, decide_eq_false (by omega), decide_eq_false (by omega)⟩
    · exact Or.inr (Or.inl ⟨hp, decide_eq_true (by omega), decide_eq_false (by omega)⟩)
    · exact Or.inr (Or.inr ⟨hp, decide_eq_false (by omega), decide_eq_true (by omega)⟩)
  clear hn
  rcases hm with ⟨hp, a1, a2⟩ | ⟨hp, a1, a2⟩ | ⟨hp, a1, a2⟩
  all_goals
    rw [hp]
    clear hp
    go_enter Tryd.func53, Tryd.ntmps53
    go_wp2
    go_ret2
    exact ⟨rfl, (by repeat' (first | (with_reducible assumption) | (with_reducible exact Kept.refl ht) | (with_reducible refine Kept.alloc ?_ _) | (with_reducible refine Kept.drew ?_) | (with_reducible refine Kept.drewN ?_ _) | (with_reducible refine Kept.setCell ?_ ?_ _ ?_ ?_) | (with_reducible refine Kept.trans ?_ (by assumption)) | omega | (simp; done) | (simp; omega)))⟩
theorem within_any (s n : Int) (w : World) (ht : Tab w) :
    Calls Tryd.prog 53 #[.int .i64 s, .int .i64 n] w fun x w' => x = .returned (rP s n) ∧ Kept w w' := by
  by_cases h1 : s = -1
  · subst h1; exact within_a n w ht
  · by_cases h2 : s = 0
    · subst h2; exact within_b n w ht
    · exact within_o s n w ht h1 h2
set_option maxRecDepth 100000 in
set_option maxHeartbeats 4000000 in
theorem whole_bad (s a e c : Int) (w : World) (ht : Tab w) (la : -9223372036854775808 ≤ a) (ha : a ≤ 9223372036854775807) (hc : ckR s 0 [(a, e)] = c) (h0 : (c != 0) = true) :
    Calls Tryd.prog 52 #[.int .i64 s, .agg #[.int .i64 a, .int .i64 e]] w fun x w' => x = .returned (.tuple #[.int .i64 0, .int .i64 0, .int .i64 c]) ∧ Kept w w' := by
  have hlt := ht.lt
  have hlt0 := ht.lt0
  have hck := fun w ht => right_one s 0 a e w ht la ha
  rw [hc] at hck
  have HC := Lib.hid hck
  clear hck hc
  go_enter Tryd.func52, Tryd.ntmps52
  go_wp2_with (first | (go_at_call 37; (with_reducible refine (HC.out _ (by repeat' (first | (with_reducible assumption) | (with_reducible refine Tab.alloc ?_ _) | (with_reducible refine Tab.drew ?_) | (with_reducible refine Tab.drewN ?_ _) | (with_reducible refine Tab.setCell ?_ ?_ ?_ _) | omega | (simp; done) | (simp; omega)))).mono ?_); rintro e w1 ⟨rfl, hk1⟩; obtain ⟨hc1, hf1⟩ := bcell hk1.2; have ht1 := hk1.1; have hz1 := hk1.2.size; (try simp only [World.size_alloc] at hz1); (try simp only [sz_drew] at hz1); (try simp only [sz_drewN] at hz1); (try simp only [World.size_alloc] at hz1); (try simp only [sz_drew] at hc1 hf1); (try simp only [sz_drewN] at hc1 hf1); (try have hw1 : w.heap.size < w1.heap.size := by omega); (try have hv1 : w.heap.size + 1 < w1.heap.size := by omega); (try have hu1 : w.heap.size + 2 < w1.heap.size := by omega)))
  go_ret3
  exact ⟨rfl, (by repeat' (first | (with_reducible assumption) | (with_reducible exact Kept.refl ht) | (with_reducible refine Kept.alloc ?_ _) | (with_reducible refine Kept.drew ?_) | (with_reducible refine Kept.drewN ?_ _) | (with_reducible refine Kept.setCell ?_ ?_ _ ?_ ?_) | (with_reducible refine Kept.trans ?_ (by assumption)) | omega | (simp; done) | (simp; omega)))⟩
set_option maxRecDepth 100000 in
set_option maxHeartbeats 4000000 in
theorem whole_far (s a e : Int) (n : Nat) (w : World) (ht : Tab w) (hc : ckR s 0 [(a, e)] = 0) (hn : mag a = n) (he : 0 ≤ e) (hf : 18 < (dg n : Int) + e) :
    Calls Tryd.prog 52 #[.int .i64 s, .agg #[.int .i64 a, .int .i64 e]] w fun x w' => x = .returned (.tuple #[.int .i64 0, .int .i64 0, .int .i64 11]) ∧ Kept w w' := by
  have hlt := ht.lt
  have hlt0 := ht.lt0
  obtain ⟨_, v1⟩ := ck1_facts hc
  obtain ⟨_, a1, a2, a3, a4, a5⟩ := vld_facts v1
  have hck := fun w ht => right_one s 0 a e w ht (by omega) (by omega)
  rw [hc] at hck
  have HC := Lib.hid hck
  have ho := fun w ht => Of_any a w ht (by omega) (by omega)
  have hd18 : dg (mag a) ≤ 18 := (dg_iff (mag a) 18).2 (by rw [show (10 : Nat) ^ 18 = 1000000000000000000 by decide]; exact a1)
  rw [hn] at ho hd18 a1
  have HO := Lib.hid ho
  clear ho hck hc v1 hn
  obtain ⟨l, hl⟩ : ∃ l, dg n = l := ⟨_, rfl⟩
  rw [hl] at hf hd18
  have hl0 : (0 : Int) ≤ (l : Int) := by omega
  have hl1 : (l : Int) ≤ 18 := by omega
  have HL := Lib.hid hl
  clear hl hd18 a1
  go_enter Tryd.func52, Tryd.ntmps52
  go_upto_region 4 with (first | (go_at_call 37; (with_reducible refine (HC.out _ (by repeat' (first | (with_reducible assumption) | (with_reducible refine Tab.alloc ?_ _) | (with_reducible refine Tab.drew ?_) | (with_reducible refine Tab.drewN ?_ _) | (with_reducible refine Tab.setCell ?_ ?_ ?_ _) | omega | (simp; done) | (simp; omega)))).mono ?_); rintro e w1 ⟨rfl, hk1⟩; obtain ⟨hc1, hf1⟩ := bcell hk1.2; have ht1 := hk1.1; have hz1 := hk1.2.size; (try simp only [World.size_alloc] at hz1); (try simp only [sz_drew] at hz1); (try simp only [sz_drewN] at hz1); (try simp only [World.size_alloc] at hz1); (try simp only [sz_drew] at hc1 hf1); (try simp only [sz_drewN] at hc1 hf1); (try have hw1 : w.heap.size < w1.heap.size := by omega); (try have hv1 : w.heap.size + 1 < w1.heap.size := by omega); (try have hu1 : w.heap.size + 2 < w1.heap.size := by omega)))
  have hI := (Inv.one ht 25 [.int .i64 a, .int .i64 e]).call hk1
  clear hc1 hf1
  (have x0 : w1.cell? ⟨w.heap.size, 0, none⟩ = some (.int .i64 a) := (hI.own 0 _ rfl).cell 0; have x1 : w1.cell? ⟨w.heap.size, 1, none⟩ = some (.int .i64 e) := (hI.own 0 _ rfl).cell 1; have xf := fun i => (hI.own 0 _ rfl).frozen i; have xl : w.heap.size < w1.heap.size := (hI.own 0 _ rfl).lt)
  have hkI := hI.kept
  clear hI
  go_wp2_with (first | (go_at_call 44; (with_reducible refine (HO.out _ (by repeat' (first | (with_reducible assumption) | (with_reducible refine Tab.alloc ?_ _) | (with_reducible refine Tab.drew ?_) | (with_reducible refine Tab.drewN ?_ _) | (with_reducible refine Tab.setCell ?_ ?_ ?_ _) | omega | (simp; done) | (simp; omega)))).mono ?_); rintro e2 w2 ⟨v2, rfl, hs2, hk2, -⟩; obtain ⟨b2, o2, c2, rfl, -⟩ := hs2.form; rw [ds_len, HL.out] at hs2 ⊢; clear hs2; obtain ⟨hc2, hf2⟩ := bcell hk2.2; have ht2 := hk2.1; have hz2 := hk2.2.size; (try simp only [World.size_alloc] at hz2); (try simp only [sz_drew] at hz2); (try simp only [sz_drewN] at hz2); (try simp only [World.size_alloc] at hz2); (try simp only [sz_drew] at hc2 hf2); (try simp only [sz_drewN] at hc2 hf2); (try have hw2 : w.heap.size < w2.heap.size := by omega); (try have hv2 : w.heap.size + 1 < w2.heap.size := by omega); (try have hu2 : w.heap.size + 2 < w2.heap.size := by omega)))
  go_ret3
  exact ⟨rfl, (by repeat' (first | (with_reducible assumption) | (with_reducible exact Kept.refl ht) | (with_reducible refine Kept.alloc ?_ _) | (with_reducible refine Kept.drew ?_) | (with_reducible refine Kept.drewN ?_ _) | (with_reducible refine Kept.setCell ?_ ?_ _ ?_ ?_) | (with_reducible refine Kept.trans ?_ (by assumption)) | omega | (simp; done) | (simp; omega)))⟩
set_option maxRecDepth 100000 in
set_option maxHeartbeats 4000000 in
theorem whole_up (s a : Int) (n j q : Nat) (M : Int) (w : World) (ht : Tab w) (hc : ckR s 0 [(a, (j : Int))] = 0) (hn : mag a = n) (hf : dg n + j ≤ 18) (hq : n * 10 ^ j = q) (hM : sg (decide (a < 0)) q = M) :
    Calls Tryd.prog 52 #[.int .i64 s, .agg #[.int .i64 a, .int .i64 (j : Int)]] w fun x w' => x = .returned (.tuple #[.int .i64 M, .int .i64 0, .int .i64 0]) ∧ Kept w w' := by
  have hlt := ht.lt
  have hlt0 := ht.lt0
  obtain ⟨_, v1⟩ := ck1_facts hc
  obtain ⟨_, a1, a2, a3, a4, a5⟩ := vld_facts v1
  have hck := fun w ht => right_one s 0 a (j : Int) w ht (by omega) (by omega)
  rw [hc] at hck
  have HC := Lib.hid hck
  have ho := fun w ht => Of_any a w ht (by omega) (by omega)
  have hd18 : dg (mag a) ≤ 18 := (dg_iff (mag a) 18).2 (by rw [show (10 : Nat) ^ 18 = 1000000000000000000 by decide]; exact a1)
  rw [hn] at ho hd18 a1
  have HO := Lib.hid ho
  clear ho hck hc v1 hn
  have hq18 : (q : Int) < 1000000000000000000 := q_up hf hq
  have HSH : Hid (∀ W, Tab W → ∀ v, Sl W v (ds n) → Calls Tryd.prog 47 #[v, .int .i64 (j : Int)] W fun e w' => ∃ v', e = .returned v' ∧ Sl w' v' (ds q) ∧ Kept W w') := Lib.hid (fun W h v h2 => by rw [← hq]; exact refshift v n j W h h2 (by omega) (by omega))
  obtain ⟨l, hl⟩ : ∃ l, dg n = l := ⟨_, rfl⟩
  rw [hl] at hf
  obtain ⟨m, hm⟩ : ∃ m : Int, (l : Int) + (j : Int) = m := ⟨_, rfl⟩
  have hq1 : IntKind.i64.wrap ((l : Int) + (j : Int)) = m := by rw [IntWalk.i64_in _ (by omega)]; exact hm
  have hm18 : decide (18 < m) = false := decide_eq_false (by omega)
  have HL := Lib.hid hl
  have hzj : (0 : Int) ≤ (j : Int) := by omega
  clear hl hf hq hd18 a1 a2 a3 hm
  have HSM : Hid (∀ W v, Sl W v (ds q) → Calls Tryd.prog 88 #[v] W fun e w' => e = .returned (.int .i64 (q : Int)) ∧ W = w') := Lib.hid (fun W v h => refsmall v q W h (by omega))
  have hq0 : (0 : Int) ≤ (q : Int) := by omega
  rcases sg_ways hM with ⟨hs, hm2⟩ | ⟨hs, hm2⟩
  all_goals
    have HSG := Lib.hid hm2
    clear hM hm2
    go_enter Tryd.func52, Tryd.ntmps52
    go_upto_region 4 with (first | (go_at_call 37; (with_reducible refine (HC.out _ (by repeat' (first | (with_reducible assumption) | (with_reducible refine Tab.alloc ?_ _) | (with_reducible refine Tab.drew ?_) | (with_reducible refine Tab.drewN ?_ _) | (with_reducible refine Tab.setCell ?_ ?_ ?_ _) | omega | (simp; done) | (simp; omega)))).mono ?_); rintro e w1 ⟨rfl, hk1⟩; obtain ⟨hc1, hf1⟩ := bcell hk1.2; have ht1 := hk1.1; have hz1 := hk1.2.size; (try simp only [World.size_alloc] at hz1); (try simp only [sz_drew] at hz1); (try simp only [sz_drewN] at hz1); (try simp only [World.size_alloc] at hz1); (try simp only [sz_drew] at hc1 hf1); (try simp only [sz_drewN] at hc1 hf1); (try have hw1 : w.heap.size < w1.heap.size := by omega); (try have hv1 : w.heap.size + 1 < w1.heap.size := by omega); (try have hu1 : w.heap.size + 2 < w1.heap.size := by omega)))
    have hI := (Inv.one ht 25 [.int .i64 a, .int .i64 (j : Int)]).call hk1
    clear hc1 hf1
    (have x0 : w1.cell? ⟨w.heap.size, 0, none⟩ = some (.int .i64 a) := (hI.own 0 _ rfl).cell 0; have x1 : w1.cell? ⟨w.heap.size, 1, none⟩ = some (.int .i64 (j : Int)) := (hI.own 0 _ rfl).cell 1; have xf := fun i => (hI.own 0 _ rfl).frozen i; have xl : w.heap.size < w1.heap.size := (hI.own 0 _ rfl).lt)
    have hkI := hI.kept
    clear hI
    go_wp2_with (first | (go_at_call 44; (with_reducible refine (HO.out _ (by repeat' (first | (with_reducible assumption) | (with_reducible refine Tab.alloc ?_ _) | (with_reducible refine Tab.drew ?_) | (with_reducible refine Tab.drewN ?_ _) | (with_reducible refine Tab.setCell ?_ ?_ ?_ _) | omega | (simp; done) | (simp; omega)))).mono ?_); rintro e2 w2 ⟨v2, rfl, hs2, hk2, -⟩; obtain ⟨b2, o2, c2, rfl, -⟩ := hs2.form; rw [ds_len, HL.out] at hs2 ⊢; have HS2 := Lib.hid hs2; clear hs2; obtain ⟨hc2, hf2⟩ := bcell hk2.2; have ht2 := hk2.1; have hz2 := hk2.2.size; (try simp only [World.size_alloc] at hz2); (try simp only [sz_drew] at hz2); (try simp only [sz_drewN] at hz2); (try simp only [World.size_alloc] at hz2); (try simp only [sz_drew] at hc2 hf2); (try simp only [sz_drewN] at hc2 hf2); (try have hw2 : w.heap.size < w2.heap.size := by omega); (try have hv2 : w.heap.size + 1 < w2.heap.size := by omega); (try have hu2 : w.heap.size + 2 < w2.heap.size := by omega)) | (go_at_call 47; (with_reducible refine Calls.mono (HSH.out _ (by repeat' (first | (with_reducible assumption) | (with_reducible refine Tab.alloc ?_ _) | (with_reducible refine Tab.drew ?_) | (with_reducible refine Tab.drewN ?_ _) | (with_reducible refine Tab.setCell ?_ ?_ ?_ _) | omega | (simp; done) | (simp; omega))) _ ?_) ?_); (focus (have HS2o := HS2.out; (repeat' (first | (with_reducible assumption) | (with_reducible refine Sl.alloc ?_ _) | (with_reducible refine Sl.drew ?_) | (with_reducible refine Sl.drewN ?_ _) | (with_reducible refine Sl.call ?_ (by assumption)))))); rintro e3 w3 ⟨v3, rfl, hs3, hk3⟩; have HS3 := Lib.hid hs3; clear hs3; obtain ⟨hc3, hf3⟩ := bcell hk3.2; have ht3 := hk3.1; have hz3 := hk3.2.size; (try simp only [World.size_alloc] at hz3); (try simp only [sz_drew] at hz3); (try simp only [sz_drewN] at hz3); (try simp only [World.size_alloc] at hz3); (try simp only [sz_drew] at hc3 hf3); (try simp only [sz_drewN] at hc3 hf3); (try have hw3 : w.heap.size < w3.heap.size := by omega); (try have hv3 : w.heap.size + 1 < w3.heap.size := by omega); (try have hu3 : w.heap.size + 2 < w3.heap.size := by omega)) | (go_at_call 88; (with_reducible refine Calls.mono (HSM.out _ _ ?_) ?_); (focus (have HS3o := HS3.out; (repeat' (first | (with_reducible assumption) | (with_reducible refine Sl.alloc ?_ _) | (with_reducible refine Sl.drew ?_) | (with_reducible refine Sl.drewN ?_ _) | (with_reducible refine Sl.call ?_ (by assumption)))))); rintro e4 w4 ⟨rfl, rfl⟩))
    go_ret3
    exact ⟨by rw [HSG.out] <;> rfl, (by repeat' (first | (with_reducible assumption) | (with_reducible exact Kept.refl ht) | (with_reducible refine Kept.alloc ?_ _) | (with_reducible refine Kept.drew ?_) | (with_reducible refine Kept.drewN ?_ _) | (with_reducible refine Kept.setCell ?_ ?_ _ ?_ ?_) | (with_reducible refine Kept.trans ?_ (by assumption)) | omega | (simp; done) | (simp; omega)))⟩
set_option maxRecDepth 100000 in
set_option maxHeartbeats 4000000 in
theorem whole_dn (s a : Int) (n j q : Nat) (M T K : Int) (w : World) (ht : Tab w) (hc : ckR s 0 [(a, (-K))] = 0) (hn : mag a = n) (hK : K = (j : Int) + 1) (hn0 : n ≠ 0) (hq : n / 10 ^ (j + 1) = q) (hT : (tl n false (j + 1) : Int) = T) (hM : sg (decide (a < 0)) q = M) :
    Calls Tryd.prog 52 #[.int .i64 s, .agg #[.int .i64 a, .int .i64 (-K)]] w fun x w' => x = .returned (.tuple #[.int .i64 M, .int .i64 T, .int .i64 0]) ∧ Kept w w' := by
  have hlt := ht.lt
  have hlt0 := ht.lt0
  obtain ⟨_, v1⟩ := ck1_facts hc
  obtain ⟨_, a1, a2, a3, a4, a5⟩ := vld_facts v1
  have hck := fun w ht => right_one s 0 a (-K) w ht (by omega) (by omega)
  rw [hc] at hck
  have HC := Lib.hid hck
  have ho := fun w ht => Of_any a w ht (by omega) (by omega)
  have hd18 : dg (mag a) ≤ 18 := (dg_iff (mag a) 18).2 (by rw [show (10 : Nat) ^ 18 = 1000000000000000000 by decide]; exact a1)
  rw [hn] at ho hd18 a1
  have HO := Lib.hid ho
  clear ho hck hc v1 hn
  have hq18 : (q : Int) < 1000000000000000000 := q_dn hd18 hq
  obtain ⟨hrt, s0, s2⟩ := rest_tl n j
  have HCU : Hid (∀ W, Tab W → ∀ v, Sl W v (ds n) → Calls Tryd.prog 75 #[.agg #[.bool false, v, .int .i64 0, .bool false], .int .i64 K] W fun x w' => ∃ v', x = .returned (.tuple #[v', .int .i64 (cutS n j false), .bool (cutL n j false)]) ∧ Sl w' v' (ds q) ∧ Kept W w') := Lib.hid (fun W h v h2 => by rw [← hq]; exact refcut false false n j _ 0 v W h h2 (by omega) hK (by omega) (Or.inl hn0))
  generalize cutS n j false = S at *
  generalize cutL n j false = L at *
  obtain ⟨l, hl⟩ : ∃ l, dg n = l := ⟨_, rfl⟩
  have HL := Lib.hid hl
  clear hl
  have HSM : Hid (∀ W v, Sl W v (ds q) → Calls Tryd.prog 88 #[v] W fun e w' => e = .returned (.int .i64 (q : Int)) ∧ W = w') := Lib.hid (fun W v h => refsmall v q W h (by omega))
  have hq0 : (0 : Int) ≤ (q : Int) := by omega
  have hge1 : decide (0 ≤ -K) = false := decide_eq_false (by omega)
  have hge2 : decide (K ≤ 0) = false := decide_eq_false (by omega)
  have hnk : IntKind.i64.wrap K = K := IntWalk.i64_in _ (by omega)
  clear hq hd18 a1 a2 a3 hK
  rcases hrt with ⟨rfl, hr, hr0⟩ | ⟨rfl, hr⟩ <;> rcases sg_ways hM with ⟨hs, hm2⟩ | ⟨hs, hm2⟩
  all_goals
    have HSG := Lib.hid hm2
    clear hM hm2
    (first | have HT3 : Hid (T = S + 1) := Lib.hid (by omega) | have HT3 : Hid (T = 0) := Lib.hid (by omega))
    clear hr hT
    (try clear hr0)
    go_enter Tryd.func52, Tryd.ntmps52
    go_upto_region 4 with (first | (go_at_call 37; (with_reducible refine (HC.out _ (by repeat' (first | (with_reducible assumption) | (with_reducible refine Tab.alloc ?_ _) | (with_reducible refine Tab.drew ?_) | (with_reducible refine Tab.drewN ?_ _) | (with_reducible refine Tab.setCell ?_ ?_ ?_ _) | omega | (simp; done) | (simp; omega)))).mono ?_); rintro e w1 ⟨rfl, hk1⟩; obtain ⟨hc1, hf1⟩ := bcell hk1.2; have ht1 := hk1.1; have hz1 := hk1.2.size; (try simp only [World.size_alloc] at hz1); (try simp only [sz_drew] at hz1); (try simp only [sz_drewN] at hz1); (try simp only [World.size_alloc] at hz1); (try simp only [sz_drew] at hc1 hf1); (try simp only [sz_drewN] at hc1 hf1); (try have hw1 : w.heap.size < w1.heap.size := by omega); (try have hv1 : w.heap.size + 1 < w1.heap.size := by omega); (try have hu1 : w.heap.size + 2 < w1.heap.size := by omega)))
    have hI := (Inv.one ht 25 [.int .i64 a, .int .i64 (-K)]).call hk1
    clear hc1 hf1
    (have x0 : w1.cell? ⟨w.heap.size, 0, none⟩ = some (.int .i64 a) := (hI.own 0 _ rfl).cell 0; have x1 : w1.cell? ⟨w.heap.size, 1, none⟩ = some (.int .i64 (-K)) := (hI.own 0 _ rfl).cell 1; have xf := fun i => (hI.own 0 _ rfl).frozen i; have xl : w.heap.size < w1.heap.size := (hI.own 0 _ rfl).lt)
    have hkI := hI.kept
    clear hI
    go_wp2_with (first | (go_at_call 44; (with_reducible refine (HO.out _ (by repeat' (first | (with_reducible assumption) | (with_reducible refine Tab.alloc ?_ _) | (with_reducible refine Tab.drew ?_) | (with_reducible refine Tab.drewN ?_ _) | (with_reducible refine Tab.setCell ?_ ?_ ?_ _) | omega | (simp; done) | (simp; omega)))).mono ?_); rintro e2 w2 ⟨v2, rfl, hs2, hk2, -⟩; obtain ⟨b2, o2, c2, rfl, -⟩ := hs2.form; rw [ds_len, HL.out] at hs2 ⊢; have HS2 := Lib.hid hs2; clear hs2; obtain ⟨hc2, hf2⟩ := bcell hk2.2; have ht2 := hk2.1; have hz2 := hk2.2.size; (try simp only [World.size_alloc] at hz2); (try simp only [sz_drew] at hz2); (try simp only [sz_drewN] at hz2); (try simp only [World.size_alloc] at hz2); (try simp only [sz_drew] at hc2 hf2); (try simp only [sz_drewN] at hc2 hf2); (try have hw2 : w.heap.size < w2.heap.size := by omega); (try have hv2 : w.heap.size + 1 < w2.heap.size := by omega); (try have hu2 : w.heap.size + 2 < w2.heap.size := by omega)) | (go_at_call 75; (with_reducible refine Calls.mono (HCU.out _ (by repeat' (first | (with_reducible assumption) | (with_reducible refine Tab.alloc ?_ _) | (with_reducible refine Tab.drew ?_) | (with_reducible refine Tab.drewN ?_ _) | (with_reducible refine Tab.setCell ?_ ?_ ?_ _) | omega | (simp; done) | (simp; omega))) _ ?_) ?_); (focus (have HS2o := HS2.out; (repeat' (first | (with_reducible assumption) | (with_reducible refine Sl.alloc ?_ _) | (with_reducible refine Sl.drew ?_) | (with_reducible refine Sl.drewN ?_ _) | (with_reducible refine Sl.call ?_ (by assumption)))))); rintro e3 w3 ⟨v3, rfl, hs3, hk3⟩; have HS3 := Lib.hid hs3; clear hs3; obtain ⟨hc3, hf3⟩ := bcell hk3.2; have ht3 := hk3.1; have hz3 := hk3.2.size; (try simp only [World.size_alloc] at hz3); (try simp only [sz_drew] at hz3); (try simp only [sz_drewN] at hz3); (try simp only [World.size_alloc] at hz3); (try simp only [sz_drew] at hc3 hf3); (try simp only [sz_drewN] at hc3 hf3); (try have hw3 : w.heap.size < w3.heap.size := by omega); (try have hv3 : w.heap.size + 1 < w3.heap.size := by omega); (try have hu3 : w.heap.size + 2 < w3.heap.size := by omega)) | (go_at_call 88; (with_reducible refine Calls.mono (HSM.out _ _ ?_) ?_); (focus (have HS3o := HS3.out; (repeat' (first | (with_reducible assumption) | (with_reducible refine Sl.alloc ?_ _) | (with_reducible refine Sl.drew ?_) | (with_reducible refine Sl.drewN ?_ _) | (with_reducible refine Sl.call ?_ (by assumption)))))); rintro e4 w4 ⟨rfl, rfl⟩))
    go_ret3
    exact ⟨by rw [HSG.out]; rw [HT3.out] <;> rfl, (by repeat' (first | (with_reducible assumption) | (with_reducible exact Kept.refl ht) | (with_reducible refine Kept.alloc ?_ _) | (with_reducible refine Kept.drew ?_) | (with_reducible refine Kept.drewN ?_ _) | (with_reducible refine Kept.setCell ?_ ?_ _ ?_ ?_) | (with_reducible refine Kept.trans ?_ (by assumption)) | omega | (simp; done) | (simp; omega)))⟩
theorem vld_neg {s a e : Int} (h : vld s a e = true) (he : e < 0) : mag a ≠ 0 := by
  unfold vld at h
  rw [Bool.and_eq_true] at h
  by_cases h0 : a = 0
  · have h2 := h.2
    rw [if_pos h0] at h2
    have := of_decide_eq_true h2
    omega
  · unfold mag; omega
set_option maxRecDepth 100000 in
set_option maxHeartbeats 4000000 in
theorem rsgn_neg (a : Int) (w : World) (hs : a < 0) : Calls Tryd.prog 55 #[.int .i64 a] w fun x w' => x = .returned (.int .i64 (-1)) ∧ w = w' := by
  go_enter Tryd.func55, Tryd.ntmps55
  go_wp2
  go_returns
  exact ⟨rfl, rfl⟩
set_option maxRecDepth 100000 in
set_option maxHeartbeats 4000000 in
theorem rsgn_pos (a : Int) (w : World) (hs : 0 < a) : Calls Tryd.prog 55 #[.int .i64 a] w fun x w' => x = .returned (.int .i64 1) ∧ w = w' := by
  go_enter Tryd.func55, Tryd.ntmps55
  go_wp2
  go_returns
  exact ⟨rfl, rfl⟩
set_option maxRecDepth 100000 in
set_option maxHeartbeats 4000000 in
theorem rsgn_zero (a : Int) (w : World) (hs : a = 0) : Calls Tryd.prog 55 #[.int .i64 a] w fun x w' => x = .returned (.int .i64 0) ∧ w = w' := by
  subst hs
  go_enter Tryd.func55, Tryd.ntmps55
  go_wp2
  go_returns
  exact ⟨rfl, rfl⟩
theorem far_pos {s a e : Int} (hc : ckR s 0 [(a, e)] = 0) (hf : 18 < (dg (mag a) : Int) + e) : 0 ≤ e := by
  obtain ⟨_, v1⟩ := ck1_facts hc
  obtain ⟨_, a1, _⟩ := vld_facts v1
  have := (dg_iff (mag a) 18).2 (by rw [show (10 : Nat) ^ 18 = 1000000000000000000 by decide]; exact a1)
  omega
theorem iQ_lt {s a e : Int} (hc : ckR s 0 [(a, e)] = 0) (hf : ¬ 18 < (dg (mag a) : Int) + e) : (iQ a e : Int) < 1000000000000000000 := by
  obtain ⟨_, v1⟩ := ck1_facts hc
  obtain ⟨_, a1, _⟩ := vld_facts v1
  unfold iQ
  split
  · exact q_up (n := mag a) (j := e.toNat) (by omega) rfl
  · exact q_dn (n := mag a) (j := (-e).toNat) ((dg_iff (mag a) 18).2 (by rw [show (10 : Nat) ^ 18 = 1000000000000000000 by decide]; exact a1)) rfl
/-- The three results of whole. -/
theorem whole_good (s a e : Int) (w : World) (ht : Tab w) (hc : ckR s 0 [(a, e)] = 0) (hf : ¬ 18 < (dg (mag a) : Int) + e) :
    Calls Tryd.prog 52 #[.int .i64 s, .agg #[.int .i64 a, .int .i64 e]] w fun x w' => x = .returned (.tuple #[.int .i64 (sg (decide (a < 0)) (iQ a e)), .int .i64 (iT a e : Int), .int .i64 0]) ∧ Kept w w' := by
  obtain ⟨_, v1⟩ := ck1_facts hc
  rcases (by omega : 0 ≤ e ∨ e < 0) with h | h
  · obtain ⟨j, rfl⟩ : ∃ j : Nat, e = (j : Int) := ⟨e.toNat, by omega⟩
    have hT : iT a (j : Int) = 0 := by unfold iT; rw [if_pos h]
    rw [hT]
    exact whole_up s a (mag a) j (iQ a (j : Int)) _ w ht hc rfl (by omega) (by unfold iQ; rw [if_pos h]; rfl) rfl
  · obtain ⟨j, rfl⟩ : ∃ j : Nat, e = -((j : Int) + 1) := ⟨(-e - 1).toNat, by omega⟩
    have hj : (-(-((j : Int) + 1))).toNat = j + 1 := by omega
    have hT : iT a (-((j : Int) + 1)) = tl (mag a) false (j + 1) := by unfold iT; rw [if_neg (by omega), hj]
    rw [hT]
    exact whole_dn s a (mag a) j (iQ a (-((j : Int) + 1))) _ _ _ w ht hc rfl rfl (vld_neg v1 h) (by unfold iQ; rw [if_neg (by omega), hj]) rfl rfl
set_option maxRecDepth 100000 in
set_option maxHeartbeats 4000000 in
theorem rentier_err (s a e m T c : Int) (w : World) (ht : Tab w) (h0 : (c != 0) = true) (HW : Hid (∀ W, Tab W → Calls Tryd.prog 52 #[.int .i64 s, .agg #[.int .i64 a, .int .i64 e]] W fun x w' => x = .returned (.tuple #[.int .i64 m, .int .i64 T, .int .i64 c]) ∧ Kept W w')) :
    Calls Tryd.prog 22 #[.int .i64 s, .agg #[.int .i64 a, .int .i64 e]] w fun x w' => x = .returned (.tuple #[.int .i64 0, .int .i64 c]) ∧ Kept w w' := by
  have hlt := ht.lt
  have hlt0 := ht.lt0
  go_enter Tryd.func22, Tryd.ntmps22
  go_wp2_with (first | (go_at_call 52; (with_reducible refine (HW.out _ (by repeat' (first | (with_reducible assumption) | (with_reducible refine Tab.alloc ?_ _) | (with_reducible refine Tab.drew ?_) | (with_reducible refine Tab.drewN ?_ _) | (with_reducible refine Tab.setCell ?_ ?_ ?_ _) | omega | (simp; done) | (simp; omega)))).mono ?_); rintro e1 w1 ⟨rfl, hk1⟩; obtain ⟨hc1, hf1⟩ := bcell hk1.2; have ht1 := hk1.1; have hz1 := hk1.2.size; (try simp only [World.size_alloc] at hz1); (try simp only [sz_drew] at hz1); (try simp only [sz_drewN] at hz1); (try simp only [World.size_alloc] at hz1); (try simp only [sz_drew] at hc1 hf1); (try simp only [sz_drewN] at hc1 hf1); (try have hw1 : w.heap.size < w1.heap.size := by omega); (try have hv1 : w.heap.size + 1 < w1.heap.size := by omega); (try have hu1 : w.heap.size + 2 < w1.heap.size := by omega)))
  go_ret2
  exact ⟨rfl, (by repeat' (first | (with_reducible assumption) | (with_reducible exact Kept.refl ht) | (with_reducible refine Kept.alloc ?_ _) | (with_reducible refine Kept.drew ?_) | (with_reducible refine Kept.drewN ?_ _) | (with_reducible refine Kept.setCell ?_ ?_ _ ?_ ?_) | (with_reducible refine Kept.trans ?_ (by assumption)) | omega | (simp; done) | (simp; omega)))⟩
set_option maxRecDepth 100000 in
set_option maxHeartbeats 4000000 in
theorem rentier_good0 (s a e m T A X : Int) (w : World) (ht : Tab w) (_m1 : -2000000000000000000 ≤ m) (_m2 : m ≤ 2000000000000000000) (hw : T = 0) (HW : Hid (∀ W, Tab W → Calls Tryd.prog 52 #[.int .i64 s, .agg #[.int .i64 a, .int .i64 e]] W fun x w' => x = .returned (.tuple #[.int .i64 m, .int .i64 T, .int .i64 0]) ∧ Kept W w')) (hr : rP s (m) = .tuple #[.int .i64 A, .int .i64 X]) :
    Calls Tryd.prog 22 #[.int .i64 s, .agg #[.int .i64 a, .int .i64 e]] w fun x w' => x = .returned (.tuple #[.int .i64 A, .int .i64 X]) ∧ Kept w w' := by
  have hlt := ht.lt
  have hlt0 := ht.lt0
  have hwi := fun w ht => within_any s (m) w ht
  rw [hr] at hwi
  have HWI := Lib.hid hwi
  clear hwi hr
  subst hw
  go_enter Tryd.func22, Tryd.ntmps22
  go_upto_region 4 with (first | (go_at_call 52; (with_reducible refine (HW.out _ (by repeat' (first | (with_reducible assumption) | (with_reducible refine Tab.alloc ?_ _) | (with_reducible refine Tab.drew ?_) | (with_reducible refine Tab.drewN ?_ _) | (with_reducible refine Tab.setCell ?_ ?_ ?_ _) | omega | (simp; done) | (simp; omega)))).mono ?_); rintro e1 w1 ⟨rfl, hk1⟩; obtain ⟨hc1, hf1⟩ := bcell hk1.2; have ht1 := hk1.1; have hz1 := hk1.2.size; (try simp only [World.size_alloc] at hz1); (try simp only [sz_drew] at hz1); (try simp only [sz_drewN] at hz1); (try simp only [World.size_alloc] at hz1); (try simp only [sz_drew] at hc1 hf1); (try simp only [sz_drewN] at hc1 hf1); (try have hw1 : w.heap.size < w1.heap.size := by omega); (try have hv1 : w.heap.size + 1 < w1.heap.size := by omega); (try have hu1 : w.heap.size + 2 < w1.heap.size := by omega)))
  have hI := (Inv.one ht 25 [.int .i64 a, .int .i64 e]).call hk1
  clear hc1 hf1
  (have x0 : w1.cell? ⟨w.heap.size, 0, none⟩ = some (.int .i64 a) := (hI.own 0 _ rfl).cell 0; have x1 : w1.cell? ⟨w.heap.size, 1, none⟩ = some (.int .i64 e) := (hI.own 0 _ rfl).cell 1; have xf := fun i => (hI.own 0 _ rfl).frozen i; have xl : w.heap.size < w1.heap.size := (hI.own 0 _ rfl).lt)
  have hkI := hI.kept
  clear hI
  go_wp2_with (first | (go_at_call 53; (with_reducible refine (HWI.out _ (by repeat' (first | (with_reducible assumption) | (with_reducible refine Tab.alloc ?_ _) | (with_reducible refine Tab.drew ?_) | (with_reducible refine Tab.drewN ?_ _) | (with_reducible refine Tab.setCell ?_ ?_ ?_ _) | omega | (simp; done) | (simp; omega)))).mono ?_); rintro e3 w3 ⟨rfl, hk3⟩))
  go_ret2
  exact ⟨rfl, (by repeat' (first | (with_reducible assumption) | (with_reducible exact Kept.refl ht) | (with_reducible refine Kept.alloc ?_ _) | (with_reducible refine Kept.drew ?_) | (with_reducible refine Kept.drewN ?_ _) | (with_reducible refine Kept.setCell ?_ ?_ _ ?_ ?_) | (with_reducible refine Kept.trans ?_ (by assumption)) | omega | (simp; done) | (simp; omega)))⟩
set_option maxRecDepth 100000 in
set_option maxHeartbeats 4000000 in
theorem rentier_good1 (s a e m T A X : Int) (w : World) (ht : Tab w) (m1 : -2000000000000000000 ≤ m) (m2 : m ≤ 2000000000000000000) (hT : 0 < T) (hs : a < 0) (HW : Hid (∀ W, Tab W → Calls Tryd.prog 52 #[.int .i64 s, .agg #[.int .i64 a, .int .i64 e]] W fun x w' => x = .returned (.tuple #[.int .i64 m, .int .i64 T, .int .i64 0]) ∧ Kept W w')) (hr : rP s (m - 1) = .tuple #[.int .i64 A, .int .i64 X]) :
    Calls Tryd.prog 22 #[.int .i64 s, .agg #[.int .i64 a, .int .i64 e]] w fun x w' => x = .returned (.tuple #[.int .i64 A, .int .i64 X]) ∧ Kept w w' := by
  have hlt := ht.lt
  have hlt0 := ht.lt0
  have hwi := fun w ht => within_any s (m - 1) w ht
  rw [hr] at hwi
  have HWI := Lib.hid hwi
  clear hwi hr
  go_enter Tryd.func22, Tryd.ntmps22
  go_upto_region 4 with (first | (go_at_call 52; (with_reducible refine (HW.out _ (by repeat' (first | (with_reducible assumption) | (with_reducible refine Tab.alloc ?_ _) | (with_reducible refine Tab.drew ?_) | (with_reducible refine Tab.drewN ?_ _) | (with_reducible refine Tab.setCell ?_ ?_ ?_ _) | omega | (simp; done) | (simp; omega)))).mono ?_); rintro e1 w1 ⟨rfl, hk1⟩; obtain ⟨hc1, hf1⟩ := bcell hk1.2; have ht1 := hk1.1; have hz1 := hk1.2.size; (try simp only [World.size_alloc] at hz1); (try simp only [sz_drew] at hz1); (try simp only [sz_drewN] at hz1); (try simp only [World.size_alloc] at hz1); (try simp only [sz_drew] at hc1 hf1); (try simp only [sz_drewN] at hc1 hf1); (try have hw1 : w.heap.size < w1.heap.size := by omega); (try have hv1 : w.heap.size + 1 < w1.heap.size := by omega); (try have hu1 : w.heap.size + 2 < w1.heap.size := by omega)))
  have hI := (Inv.one ht 25 [.int .i64 a, .int .i64 e]).call hk1
  clear hc1 hf1
  (have x0 : w1.cell? ⟨w.heap.size, 0, none⟩ = some (.int .i64 a) := (hI.own 0 _ rfl).cell 0; have x1 : w1.cell? ⟨w.heap.size, 1, none⟩ = some (.int .i64 e) := (hI.own 0 _ rfl).cell 1; have xf := fun i => (hI.own 0 _ rfl).frozen i; have xl : w.heap.size < w1.heap.size := (hI.own 0 _ rfl).lt)
  have hkI := hI.kept
  clear hI
  go_wp2_with (first | (go_at_call 53; (with_reducible refine (HWI.out _ (by repeat' (first | (with_reducible assumption) | (with_reducible refine Tab.alloc ?_ _) | (with_reducible refine Tab.drew ?_) | (with_reducible refine Tab.drewN ?_ _) | (with_reducible refine Tab.setCell ?_ ?_ ?_ _) | omega | (simp; done) | (simp; omega)))).mono ?_); rintro e3 w3 ⟨rfl, hk3⟩))
  go_ret2
  exact ⟨rfl, (by repeat' (first | (with_reducible assumption) | (with_reducible exact Kept.refl ht) | (with_reducible refine Kept.alloc ?_ _) | (with_reducible refine Kept.drew ?_) | (with_reducible refine Kept.drewN ?_ _) | (with_reducible refine Kept.setCell ?_ ?_ _ ?_ ?_) | (with_reducible refine Kept.trans ?_ (by assumption)) | omega | (simp; done) | (simp; omega)))⟩
set_option maxRecDepth 100000 in
set_option maxHeartbeats 4000000 in
theorem rentier_good2 (s a e m T A X : Int) (w : World) (ht : Tab w) (_m1 : -2000000000000000000 ≤ m) (_m2 : m ≤ 2000000000000000000) (hT : 0 < T) (hs : 0 ≤ a) (HW : Hid (∀ W, Tab W → Calls Tryd.prog 52 #[.int .i64 s, .agg #[.int .i64 a, .int .i64 e]] W fun x w' => x = .returned (.tuple #[.int .i64 m, .int .i64 T, .int .i64 0]) ∧ Kept W w')) (hr : rP s (m) = .tuple #[.int .i64 A, .int .i64 X]) :
    Calls Tryd.prog 22 #[.int .i64 s, .agg #[.int .i64 a, .int .i64 e]] w fun x w' => x = .returned (.tuple #[.int .i64 A, .int .i64 X]) ∧ Kept w w' := by
  have hlt := ht.lt
  have hlt0 := ht.lt0
  have hwi := fun w ht => within_any s (m) w ht
  rw [hr] at hwi
  have HWI := Lib.hid hwi
  clear hwi hr
  go_enter Tryd.func22, Tryd.ntmps22
  go_upto_region 4 with (first | (go_at_call 52; (with_reducible refine (HW.out _ (by repeat' (first | (with_reducible assumption) | (with_reducible refine Tab.alloc ?_ _) | (with_reducible refine Tab.drew ?_) | (with_reducible refine Tab.drewN ?_ _) | (with_reducible refine Tab.setCell ?_ ?_ ?_ _) | omega | (simp; done) | (simp; omega)))).mono ?_); rintro e1 w1 ⟨rfl, hk1⟩; obtain ⟨hc1, hf1⟩ := bcell hk1.2; have ht1 := hk1.1; have hz1 := hk1.2.size; (try simp only [World.size_alloc] at hz1); (try simp only [sz_drew] at hz1); (try simp only [sz_drewN] at hz1); (try simp only [World.size_alloc] at hz1); (try simp only [sz_drew] at hc1 hf1); (try simp only [sz_drewN] at hc1 hf1); (try have hw1 : w.heap.size < w1.heap.size := by omega); (try have hv1 : w.heap.size + 1 < w1.heap.size := by omega); (try have hu1 : w.heap.size + 2 < w1.heap.size := by omega)))
  have hI := (Inv.one ht 25 [.int .i64 a, .int .i64 e]).call hk1
  clear hc1 hf1
  (have x0 : w1.cell? ⟨w.heap.size, 0, none⟩ = some (.int .i64 a) := (hI.own 0 _ rfl).cell 0; have x1 : w1.cell? ⟨w.heap.size, 1, none⟩ = some (.int .i64 e) := (hI.own 0 _ rfl).cell 1; have xf := fun i => (hI.own 0 _ rfl).frozen i; have xl : w.heap.size < w1.heap.size := (hI.own 0 _ rfl).lt)
  have hkI := hI.kept
  clear hI
  go_wp2_with (first | (go_at_call 53; (with_reducible refine (HWI.out _ (by repeat' (first | (with_reducible assumption) | (with_reducible refine Tab.alloc ?_ _) | (with_reducible refine Tab.drew ?_) | (with_reducible refine Tab.drewN ?_ _) | (with_reducible refine Tab.setCell ?_ ?_ ?_ _) | omega | (simp; done) | (simp; omega)))).mono ?_); rintro e3 w3 ⟨rfl, hk3⟩))
  go_ret2
  exact ⟨rfl, (by repeat' (first | (with_reducible assumption) | (with_reducible exact Kept.refl ht) | (with_reducible refine Kept.alloc ?_ _) | (with_reducible refine Kept.drew ?_) | (with_reducible refine Kept.drewN ?_ _) | (with_reducible refine Kept.setCell ?_ ?_ _ ?_ ?_) | (with_reducible refine Kept.trans ?_ (by assumption)) | omega | (simp; done) | (simp; omega)))⟩
set_option maxRecDepth 100000 in
set_option maxHeartbeats 4000000 in
theorem rround_err (s a e m T c : Int) (w : World) (ht : Tab w) (h0 : (c != 0) = true) (HW : Hid (∀ W, Tab W → Calls Tryd.prog 52 #[.int .i64 s, .agg #[.int .i64 a, .int .i64 e]] W fun x w' => x = .returned (.tuple #[.int .i64 m, .int .i64 T, .int .i64 c]) ∧ Kept W w')) :
    Calls Tryd.prog 24 #[.int .i64 s, .agg #[.int .i64 a, .int .i64 e]] w fun x w' => x = .returned (.tuple #[.int .i64 0, .int .i64 c]) ∧ Kept w w' := by
  have hlt := ht.lt
  have hlt0 := ht.lt0
  go_enter Tryd.func24, Tryd.ntmps24
  go_wp2_with (first | (go_at_call 52; (with_reducible refine (HW.out _ (by repeat' (first | (with_reducible assumption) | (with_reducible refine Tab.alloc ?_ _) | (with_reducible refine Tab.drew ?_) | (with_reducible refine Tab.drewN ?_ _) | (with_reducible refine Tab.setCell ?_ ?_ ?_ _) | omega | (simp; done) | (simp; omega)))).mono ?_); rintro e1 w1 ⟨rfl, hk1⟩; obtain ⟨hc1, hf1⟩ := bcell hk1.2; have ht1 := hk1.1; have hz1 := hk1.2.size; (try simp only [World.size_alloc] at hz1); (try simp only [sz_drew] at hz1); (try simp only [sz_drewN] at hz1); (try simp only [World.size_alloc] at hz1); (try simp only [sz_drew] at hc1 hf1); (try simp only [sz_drewN] at hc1 hf1); (try have hw1 : w.heap.size < w1.heap.size := by omega); (try have hv1 : w.heap.size + 1 < w1.heap.size := by omega); (try have hu1 : w.heap.size + 2 < w1.heap.size := by omega)))
  go_ret2
  exact ⟨rfl, (by repeat' (first | (with_reducible assumption) | (with_reducible exact Kept.refl ht) | (with_reducible refine Kept.alloc ?_ _) | (with_reducible refine Kept.drew ?_) | (with_reducible refine Kept.drewN ?_ _) | (with_reducible refine Kept.setCell ?_ ?_ _ ?_ ?_) | (with_reducible refine Kept.trans ?_ (by assumption)) | omega | (simp; done) | (simp; omega)))⟩
set_option maxRecDepth 100000 in
set_option maxHeartbeats 4000000 in
theorem rround_good0 (s a e m T A X : Int) (w : World) (ht : Tab w) (_m1 : -2000000000000000000 ≤ m) (_m2 : m ≤ 2000000000000000000) (hT : T < 2) (HW : Hid (∀ W, Tab W → Calls Tryd.prog 52 #[.int .i64 s, .agg #[.int .i64 a, .int .i64 e]] W fun x w' => x = .returned (.tuple #[.int .i64 m, .int .i64 T, .int .i64 0]) ∧ Kept W w')) (hr : rP s (m) = .tuple #[.int .i64 A, .int .i64 X]) :
    Calls Tryd.prog 24 #[.int .i64 s, .agg #[.int .i64 a, .int .i64 e]] w fun x w' => x = .returned (.tuple #[.int .i64 A, .int .i64 X]) ∧ Kept w w' := by
  have hlt := ht.lt
  have hlt0 := ht.lt0
  have hwi := fun w ht => within_any s (m) w ht
  rw [hr] at hwi
  have HWI := Lib.hid hwi
  clear hwi hr
  go_enter Tryd.func24, Tryd.ntmps24
  go_upto_region 4 with (first | (go_at_call 52; (with_reducible refine (HW.out _ (by repeat' (first | (with_reducible assumption) | (with_reducible refine Tab.alloc ?_ _) | (with_reducible refine Tab.drew ?_) | (with_reducible refine Tab.drewN ?_ _) | (with_reducible refine Tab.setCell ?_ ?_ ?_ _) | omega | (simp; done) | (simp; omega)))).mono ?_); rintro e1 w1 ⟨rfl, hk1⟩; obtain ⟨hc1, hf1⟩ := bcell hk1.2; have ht1 := hk1.1; have hz1 := hk1.2.size; (try simp only [World.size_alloc] at hz1); (try simp only [sz_drew] at hz1); (try simp only [sz_drewN] at hz1); (try simp only [World.size_alloc] at hz1); (try simp only [sz_drew] at hc1 hf1); (try simp only [sz_drewN] at hc1 hf1); (try have hw1 : w.heap.size < w1.heap.size := by omega); (try have hv1 : w.heap.size + 1 < w1.heap.size := by omega); (try have hu1 : w.heap.size + 2 < w1.heap.size := by omega)))
  have hI := (Inv.one ht 25 [.int .i64 a, .int .i64 e]).call hk1
  clear hc1 hf1
  (have x0 : w1.cell? ⟨w.heap.size, 0, none⟩ = some (.int .i64 a) := (hI.own 0 _ rfl).cell 0; have x1 : w1.cell? ⟨w.heap.size, 1, none⟩ = some (.int .i64 e) := (hI.own 0 _ rfl).cell 1; have xf := fun i => (hI.own 0 _ rfl).frozen i; have xl : w.heap.size < w1.heap.size := (hI.own 0 _ rfl).lt)
  have hkI := hI.kept
  clear hI
  go_wp2_with (first | (go_at_call 53; (with_reducible refine (HWI.out _ (by repeat' (first | (with_reducible assumption) | (with_reducible refine Tab.alloc ?_ _) | (with_reducible refine Tab.drew ?_) | (with_reducible refine Tab.drewN ?_ _) | (with_reducible refine Tab.setCell ?_ ?_ ?_ _) | omega | (simp; done) | (simp; omega)))).mono ?_); rintro e3 w3 ⟨rfl, hk3⟩))
  go_ret2
  exact ⟨rfl, (by repeat' (first | (with_reducible assumption) | (with_reducible exact Kept.refl ht) | (with_reducible refine Kept.alloc ?_ _) | (with_reducible refine Kept.drew ?_) | (with_reducible refine Kept.drewN ?_ _) | (with_reducible refine Kept.setCell ?_ ?_ _ ?_ ?_) | (with_reducible refine Kept.trans ?_ (by assumption)) | omega | (simp; done) | (simp; omega)))⟩
set_option maxRecDepth 100000 in
set_option maxHeartbeats 4000000 in
theorem rround_good1 (s a e m T A X : Int) (w : World) (ht : Tab w) (m1 : -2000000000000000000 ≤ m) (m2 : m ≤ 2000000000000000000) (hT : 2 ≤ T) (hs : a < 0) (HW : Hid (∀ W, Tab W → Calls Tryd.prog 52 #[.int .i64 s, .agg #[.int .i64 a, .int .i64 e]] W fun x w' => x = .returned (.tuple #[.int .i64 m, .int .i64 T, .int .i64 0]) ∧ Kept W w')) (hr : rP s (m + -1) = .tuple #[.int .i64 A, .int .i64 X]) :
    Calls Tryd.prog 24 #[.int .i64 s, .agg #[.int .i64 a, .int .i64 e]] w fun x w' => x = .returned (.tuple #[.int .i64 A, .int .i64 X]) ∧ Kept w w' := by
  have hlt := ht.lt
  have hlt0 := ht.lt0
  have hwi := fun w ht => within_any s (m + -1) w ht
  rw [hr] at hwi
  have HWI := Lib.hid hwi
  clear hwi hr
  have HSI := Lib.hid (fun w => rsgn_neg a w hs)
  go_enter Tryd.func24, Tryd.ntmps24
  go_upto_region 4 with (first | (go_at_call 52; (with_reducible refine (HW.out _ (by repeat' (first | (with_reducible assumption) | (with_reducible refine Tab.alloc ?_ _) | (with_reducible refine Tab.drew ?_) | (with_reducible refine Tab.drewN ?_ _) | (with_reducible refine Tab.setCell ?_ ?_ ?_ _) | omega | (simp; done) | (simp; omega)))).mono ?_); rintro e1 w1 ⟨rfl, hk1⟩; obtain ⟨hc1, hf1⟩ := bcell hk1.2; have ht1 := hk1.1; have hz1 := hk1.2.size; (try simp only [World.size_alloc] at hz1); (try simp only [sz_drew] at hz1); (try simp only [sz_drewN] at hz1); (try simp only [World.size_alloc] at hz1); (try simp only [sz_drew] at hc1 hf1); (try simp only [sz_drewN] at hc1 hf1); (try have hw1 : w.heap.size < w1.heap.size := by omega); (try have hv1 : w.heap.size + 1 < w1.heap.size := by omega); (try have hu1 : w.heap.size + 2 < w1.heap.size := by omega)))
  have hI := (Inv.one ht 25 [.int .i64 a, .int .i64 e]).call hk1
  clear hc1 hf1
  (have x0 : w1.cell? ⟨w.heap.size, 0, none⟩ = some (.int .i64 a) := (hI.own 0 _ rfl).cell 0; have x1 : w1.cell? ⟨w.heap.size, 1, none⟩ = some (.int .i64 e) := (hI.own 0 _ rfl).cell 1; have xf := fun i => (hI.own 0 _ rfl).frozen i; have xl : w.heap.size < w1.heap.size := (hI.own 0 _ rfl).lt)
  have hkI := hI.kept
  clear hI
  go_wp2_with (first | (go_at_call 53; (with_reducible refine (HWI.out _ (by repeat' (first | (with_reducible assumption) | (with_reducible refine Tab.alloc ?_ _) | (with_reducible refine Tab.drew ?_) | (with_reducible refine Tab.drewN ?_ _) | (with_reducible refine Tab.setCell ?_ ?_ ?_ _) | omega | (simp; done) | (simp; omega)))).mono ?_); rintro e3 w3 ⟨rfl, hk3⟩) | (go_at_call 55; (with_reducible refine (HSI.out _).mono ?_); rintro e2 w2 ⟨rfl, rfl⟩))
  go_ret2
  exact ⟨rfl, (by repeat' (first | (with_reducible assumption) | (with_reducible exact Kept.refl ht) | (with_reducible refine Kept.alloc ?_ _) | (with_reducible refine Kept.drew ?_) | (with_reducible refine Kept.drewN ?_ _) | (with_reducible refine Kept.setCell ?_ ?_ _ ?_ ?_) | (with_reducible refine Kept.trans ?_ (by assumption)) | omega | (simp; done) | (simp; omega)))⟩
set_option maxRecDepth 100000 in
set_option maxHeartbeats 4000000 in
theorem rround_good2 (s a e m T A X : Int) (w : World) (ht : Tab w) (m1 : -2000000000000000000 ≤ m) (m2 : m ≤ 2000000000000000000) (hT : 2 ≤ T) (hs : 0 < a) (HW : Hid (∀ W, Tab W → Calls Tryd.prog 52 #[.int .i64 s, .agg #[.int .i64 a, .int .i64 e]] W fun x w' => x = .returned (.tuple #[.int .i64 m, .int .i64 T, .int .i64 0]) ∧ Kept W w')) (hr : rP s (m + 1) = .tuple #[.int .i64 A, .int .i64 X]) :
    Calls Tryd.prog 24 #[.int .i64 s, .agg #[.int .i64 a, .int .i64 e]] w fun x w' => x = .returned (.tuple #[.int .i64 A, .int .i64 X]) ∧ Kept w w' := by
  have hlt := ht.lt
  have hlt0 := ht.lt0
  have hwi := fun w ht => within_any s (m + 1) w ht
  rw [hr] at hwi
  have HWI := Lib.hid hwi
  clear hwi hr
  have HSI := Lib.hid (fun w => rsgn_pos a w hs)
  go_enter Tryd.func24, Tryd.ntmps24
  go_upto_region 4 with (first | (go_at_call 52; (with_reducible refine (HW.out _ (by repeat' (first | (with_reducible assumption) | (with_reducible refine Tab.alloc ?_ _) | (with_reducible refine Tab.drew ?_) | (with_reducible refine Tab.drewN ?_ _) | (with_reducible refine Tab.setCell ?_ ?_ ?_ _) | omega | (simp; done) | (simp; omega)))).mono ?_); rintro e1 w1 ⟨rfl, hk1⟩; obtain ⟨hc1, hf1⟩ := bcell hk1.2; have ht1 := hk1.1; have hz1 := hk1.2.size; (try simp only [World.size_alloc] at hz1); (try simp only [sz_drew] at hz1); (try simp only [sz_drewN] at hz1); (try simp only [World.size_alloc] at hz1); (try simp only [sz_drew] at hc1 hf1); (try simp only [sz_drewN] at hc1 hf1); (try have hw1 : w.heap.size < w1.heap.size := by omega); (try have hv1 : w.heap.size + 1 < w1.heap.size := by omega); (try have hu1 : w.heap.size + 2 < w1.heap.size := by omega)))
  have hI := (Inv.one ht 25 [.int .i64 a, .int .i64 e]).call hk1
  clear hc1 hf1
  (have x0 : w1.cell? ⟨w.heap.size, 0, none⟩ = some (.int .i64 a) := (hI.own 0 _ rfl).cell 0; have x1 : w1.cell? ⟨w.heap.size, 1, none⟩ = some (.int .i64 e) := (hI.own 0 _ rfl).cell 1; have xf := fun i => (hI.own 0 _ rfl).frozen i; have xl : w.heap.size < w1.heap.size := (hI.own 0 _ rfl).lt)
  have hkI := hI.kept
  clear hI
  go_wp2_with (first | (go_at_call 53; (with_reducible refine (HWI.out _ (by repeat' (first | (with_reducible assumption) | (with_reducible refine Tab.alloc ?_ _) | (with_reducible refine Tab.drew ?_) | (with_reducible refine Tab.drewN ?_ _) | (with_reducible refine Tab.setCell ?_ ?_ ?_ _) | omega | (simp; done) | (simp; omega)))).mono ?_); rintro e3 w3 ⟨rfl, hk3⟩) | (go_at_call 55; (with_reducible refine (HSI.out _).mono ?_); rintro e2 w2 ⟨rfl, rfl⟩))
  go_ret2
  exact ⟨rfl, (by repeat' (first | (with_reducible assumption) | (with_reducible exact Kept.refl ht) | (with_reducible refine Kept.alloc ?_ _) | (with_reducible refine Kept.drew ?_) | (with_reducible refine Kept.drewN ?_ _) | (with_reducible refine Kept.setCell ?_ ?_ _ ?_ ?_) | (with_reducible refine Kept.trans ?_ (by assumption)) | omega | (simp; done) | (simp; omega)))⟩
theorem rentier_any (s a e : Int) (w : World) (ht : Tab w) (la : -9223372036854775808 ≤ a) (ha : a ≤ 9223372036854775807) :
    Calls Tryd.prog 22 #[.int .i64 s, .agg #[.int .i64 a, .int .i64 e]] w fun x w' => x = .returned (iA s a e (gE a e)) ∧ Kept w w' := by
  unfold iA
  by_cases hc : ckR s 0 [(a, e)] = 0
  · rw [if_pos hc]
    obtain ⟨A, X, h⟩ := iV_form s a e (gE a e)
    rw [h]
    unfold iV at h
    by_cases hf : 18 < (dg (mag a) : Int) + e
    · rw [if_pos hf] at h
      rw [← h]
      exact rentier_err s a e 0 0 11 w ht (by decide) (Lib.hid (fun W hW => whole_far s a e (mag a) W hW hc rfl (far_pos hc hf) hf))
    · rw [if_neg hf] at h
      have hq := iQ_lt hc hf
      have HW := Lib.hid (fun W hW => whole_good s a e W hW hc hf)
      have hb : -2000000000000000000 ≤ sg (decide (a < 0)) (iQ a e) ∧ sg (decide (a < 0)) (iQ a e) ≤ 2000000000000000000 := by unfold sg; split <;> omega
      by_cases hT : iT a e = 0
      · refine rentier_good0 s a e _ _ A X w ht hb.1 hb.2 (by rw [hT]; rfl) HW ?_
        rw [← h]; unfold rI gE; rw [hT]; simp
      · by_cases hs : a < 0
        · refine rentier_good1 s a e _ _ A X w ht hb.1 hb.2 (by omega) hs HW ?_
          rw [← h]; unfold rI gE sg; simp [hs, hT]; congr 1; omega
        · refine rentier_good2 s a e _ _ A X w ht hb.1 hb.2 (by omega) (by omega) HW ?_
          rw [← h]; unfold rI gE sg; simp [hs]
  · rw [if_neg hc]
    exact rentier_err s a e 0 0 _ w ht (by rw [bne_iff_ne]; exact hc) (Lib.hid (fun W hW => whole_bad s a e _ W hW la ha rfl (by rw [bne_iff_ne]; exact hc)))
theorem rround_any (s a e : Int) (w : World) (ht : Tab w) (la : -9223372036854775808 ≤ a) (ha : a ≤ 9223372036854775807) :
    Calls Tryd.prog 24 #[.int .i64 s, .agg #[.int .i64 a, .int .i64 e]] w fun x w' => x = .returned (iA s a e (gR a e)) ∧ Kept w w' := by
  unfold iA
  by_cases hc : ckR s 0 [(a, e)] = 0
  · rw [if_pos hc]
    obtain ⟨A, X, h⟩ := iV_form s a e (gR a e)
    rw [h]
    unfold iV at h
    by_cases hf : 18 < (dg (mag a) : Int) + e
    · rw [if_pos hf] at h
      rw [← h]
      exact rround_err s a e 0 0 11 w ht (by decide) (Lib.hid (fun W hW => whole_far s a e (mag a) W hW hc rfl (far_pos hc hf) hf))
    · rw [if_neg hf] at h
      have hq := iQ_lt hc hf
      have HW := Lib.hid (fun W hW => whole_good s a e W hW hc hf)
      have hb : -2000000000000000000 ≤ sg (decide (a < 0)) (iQ a e) ∧ sg (decide (a < 0)) (iQ a e) ≤ 2000000000000000000 := by unfold sg; split <;> omega
      by_cases hT : iT a e < 2
      · refine rround_good0 s a e _ _ A X w ht hb.1 hb.2 (by omega) HW ?_
        rw [← h]; unfold rI gR; rw [decide_eq_false (show ¬ 2 ≤ iT a e by omega)]; simp
      · rcases (by omega : a < 0 ∨ 0 < a ∨ a = 0) with hs | hs | hs
        · refine rround_good1 s a e _ _ A X w ht hb.1 hb.2 (by omega) hs HW ?_
          rw [← h]; unfold rI gR sg; rw [decide_eq_true (by omega : 2 ≤ iT a e)]; simp [hs]; congr 1; omega
        · refine rround_good2 s a e _ _ A X w ht hb.1 hb.2 (by omega) hs HW ?_
          rw [← h]; unfold rI gR sg; rw [decide_eq_true (by omega : 2 ≤ iT a e), decide_eq_false (by omega : ¬ a < 0)]; simp
        · exfalso
          apply hT
          subst hs
          unfold iT
          split
          · omega
          · unfold tl mag; simp
  · rw [if_neg hc]
    exact rround_err s a e 0 0 _ w ht (by rw [bne_iff_ne]; exact hc) (Lib.hid (fun W hW => whole_bad s a e _ W hW la ha rfl (by rw [bne_iff_ne]; exact hc)))
end Go.Proofs.YtanfhlkfmmglhaaDoor
