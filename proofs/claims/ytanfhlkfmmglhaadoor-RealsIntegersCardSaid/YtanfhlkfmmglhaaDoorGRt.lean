/- The reference's next. Condition: the tables hold what their initialisers lay. -/
import Derived.Test.YtanfhlkfmmglhaaDoorGRf2
import Derived.Test.YtanfhlkfmmglhaaDoorGLaw
import Derived.Deep.RegionHeld3
namespace Go.Proofs.YtanfhlkfmmglhaaDoor
open Go.ChangeShapes Go.WideShapes Go.ChangeAt Go.RowKit
attribute [local go_sem ↓] Go.wp_at_zero Go.wp_at_succ

theorem ds_twenty : ds 20 = [0, 2] := by
  rw [ds_step (by omega), ds_step (n := 20 / 10) (by omega)]
  show [((20 % 10 : Nat) : Int), ((2 % 10 : Nat) : Int)] ++ ds 0 = _
  rw [ds_zero]
  rfl
theorem Sl.twenty (w : World) : Sl (w.alloc (.cells #[.int .i64 0, .int .i64 2] 3)) (.slice (some ⟨w.heap.size, 0, none⟩) 2 2) (ds 20) := by
  rw [ds_twenty]
  exact (Ow.lit w (Nat.le_refl _) [0, 2] (by simp)).sl
theorem dg_mulle (a b : Nat) : dg (a * b) ≤ dg a + dg b := (dg_iff _ _).2 (by rw [Nat.pow_add]; exact Nat.mul_lt_mul_of_lt_of_lt (lt_dg a) (lt_dg b))
theorem dg_addle (a b : Nat) : dg (a + b) ≤ dg a + dg b + 1 := (dg_iff _ _).2 (by
  have h1 : 10 ^ dg a ≤ 10 ^ (dg a + dg b) := p10_le (by omega)
  have h2 : 10 ^ dg b ≤ 10 ^ (dg a + dg b) := p10_le (by omega)
  have h3 := lt_dg a
  have h4 := lt_dg b
  rw [Nat.pow_succ]
  omega)
theorem dg_nx {x d : Nat} (hx : dg x ≤ 60) (hd : d ≤ 10) : dg (x * 20) ≤ 62 ∧ dg d ≤ 2 ∧ dg (x * 20 + d) ≤ 65 ∧ dg (nx x d) ≤ 67 := by
  have h1 := dg_mulle x 20
  have h2 : dg 20 ≤ 2 := (dg_iff _ _).2 (by decide)
  have h3 : dg d ≤ 2 := (dg_iff _ _).2 (by omega)
  have h4 := dg_addle (x * 20) d
  have h5 := dg_mulle (x * 20 + d) d
  exact ⟨by omega, h3, by omega, by unfold nx; omega⟩
set_option maxRecDepth 100000 in
set_option maxHeartbeats 8000000 in
theorem refnext (v : Value) (x d : Nat) (w : World) (ht : Tab w) (h : Sl w v (ds x)) (hx : dg x ≤ 60) (hd : d ≤ 10) :
    Calls Tryd.prog 85 #[v, .int .i64 (d : Int)] w fun e w' => ∃ v', e = .returned v' ∧ Sl w' v' (ds (nx x d)) ∧ Kept w w' := by
  have hlt := ht.lt
  have hlt0 := ht.lt0
  obtain ⟨n1, n2, n3, n4⟩ := dg_nx hx hd
  have HV := Lib.hid h
  have HT1 : Hid (∀ W, Kept w W → Sl W v (ds x) → ∀ u, Sl W u (ds 20) → Calls Tryd.prog 43 #[v, u] W fun e w' => ∃ v', e = .returned v' ∧ Sl w' v' (ds (x * 20)) ∧ Kept W w') := Lib.hid (fun W k h1 u h2 => reftimes v u x 20 W k.1 h1 h2 (by omega) ((dg_iff _ _).2 (by decide)))
  have HO : Hid (∀ W, Kept w W → Calls Tryd.prog 44 #[.int .i64 (d : Int)] W fun e w' => ∃ v', e = .returned v' ∧ Sl w' v' (ds d) ∧ Kept W w' ∧ Nw W.heap.size v') := Lib.hid (fun W k => by
    have := Of_any (d : Int) W k.1 (by omega) (by omega)
    rwa [show mag (d : Int) = d by unfold mag; omega] at this)
  have HP : Hid (∀ W, Kept w W → ∀ a b, Sl W a (ds (x * 20)) → Sl W b (ds d) → Calls Tryd.prog 77 #[a, b] W fun e w' => ∃ v', e = .returned v' ∧ Sl w' v' (ds (x * 20 + d)) ∧ Kept W w') := Lib.hid (fun W k a b h1 h2 => refplus a b _ _ W k.1 h1 h2 (by omega) (by omega))
  have HT2 : Hid (∀ W, Kept w W → ∀ a b, Sl W a (ds (x * 20 + d)) → Sl W b (ds d) → Calls Tryd.prog 43 #[a, b] W fun e w' => ∃ v', e = .returned v' ∧ Sl w' v' (ds (nx x d)) ∧ Kept W w') := Lib.hid (fun W k a b h1 h2 => reftimes a b _ _ W k.1 h1 h2 (by omega) (by omega))
  have HK0 : Hid (Kept w (w.alloc (.cells #[.int .i64 0, .int .i64 2] 3))) := Lib.hid ((Kept.refl ht).alloc _)
  have HV0 := Lib.hid (h.alloc (.cells #[.int .i64 0, .int .i64 2] 3))
  clear h n1 n2 n3 n4 hx
  go_enter Tryd.func85, Tryd.ntmps85
  go_wp2_with (first
    | (go_at_call 43; (with_reducible refine (HT1.out _ HK0.out HV0.out _ (Sl.twenty w)).mono ?_); rintro e w1 ⟨v1, rfl, hs1, hk1⟩; have HK1 := Lib.hid (HK0.out.trans hk1); have HS1 := Lib.hid hs1; clear hs1 hk1)
    | (go_at_call 44; (with_reducible refine (HO.out _ HK1.out).mono ?_); rintro e w2 ⟨v2, rfl, hs2, hk2, -⟩; have HK2 := Lib.hid (HK1.out.trans hk2); have HS2 := Lib.hid hs2; have HS12 := Lib.hid (HS1.out.call hk2); clear hs2 hk2)
    | (go_at_call 77; (with_reducible refine (HP.out _ HK2.out _ _ HS12.out HS2.out).mono ?_); rintro e w3 ⟨v3, rfl, hs3, hk3⟩; have HK3 := Lib.hid (HK2.out.trans hk3); have HS3 := Lib.hid hs3; clear hs3 hk3)
    | (go_at_call 44; (with_reducible refine (HO.out _ HK3.out).mono ?_); rintro e w4 ⟨v4, rfl, hs4, hk4, -⟩; have HK4 := Lib.hid (HK3.out.trans hk4); have HS4 := Lib.hid hs4; have HS34 := Lib.hid (HS3.out.call hk4); clear hs4 hk4)
    | (go_at_call 43; (with_reducible refine (HT2.out _ HK4.out _ _ HS34.out HS4.out).mono ?_); rintro e w5 ⟨v5, rfl, hs5, hk5⟩))
  go_returns
  exact ⟨_, rfl, hs5, HK4.out.trans hk5⟩
end Go.Proofs.YtanfhlkfmmglhaaDoor
/- The reference's Exactly. Condition: the tables hold what their initialisers lay. -/
namespace Go.Proofs.YtanfhlkfmmglhaaDoor
open Go.ChangeShapes Go.WideShapes Go.ChangeAt Go.RowKit
attribute [local go_sem ↓] Go.wp_at_zero Go.wp_at_succ

/-- The reference's exact number, as a value. -/
def exV (neg : Bool) (v : Value) (e : Int) (more : Bool) : Array Value := #[.bool neg, v, .int .i64 e, .bool more]
/-- A store elsewhere. -/
theorem Sl.far {w : World} {b off n c : Nat} {l : List Int} (h : Sl w (.slice (some ⟨b, off, none⟩) n c) l) {p : Addr} (hp : b ≠ p.block) (u : Value) : Sl (w.setCell p u) (.slice (some ⟨b, off, none⟩) n c) l := by
  obtain ⟨b', off', cap, he, h2, h3, h4, h5⟩ := h
  simp at he
  obtain ⟨⟨rfl, rfl⟩, rfl, rfl⟩ := he
  refine ⟨b, off, c, rfl, h2, h3, by simpa using h4, fun j v hj => ?_⟩
  rw [World.cell?_setCell_other]
  · exact h5 j v hj
  · intro he
    exact hp (by rw [he])
theorem ex_pack {w w' : World} {m e : Int} (h : Inv w [(w.heap.size, 25, [.int .i64 m, .int .i64 e])] w') :
    Inv w [(w.heap.size, 25, [.int .i64 m, .int .i64 e])] w' ∧ Tab w' ∧ w'.cell? ⟨w.heap.size, 0, none⟩ = some (.int .i64 m) ∧ w'.cell? ⟨w.heap.size, 1, none⟩ = some (.int .i64 e) :=
  ⟨h, h.kept.1, (h.own 0 _ rfl).cell 0, (h.own 0 _ rfl).cell 1⟩
set_option maxRecDepth 100000 in
set_option maxHeartbeats 4000000 in
theorem refExactly (m e : Int) (w : World) (ht : Tab w) (lo : -9223372036854775808 ≤ m) (hi : m ≤ 9223372036854775807) :
    Calls Tryd.prog 40 #[.agg #[.int .i64 m, .int .i64 e]] w fun x w' => ∃ v, x = .returned (.agg #[.bool (decide (m < 0)), v, .int .i64 e, .bool false]) ∧ Sl w' v (ds (mag m)) ∧ Kept w w' ∧ Nw w.heap.size v := by
  have hlt := ht.lt
  have hlt0 := ht.lt0
  have HO := Lib.hid (fun w ht => Of_any m w ht lo hi)
  clear lo hi
  go_enter Tryd.func40, Tryd.ntmps40
  go_upto_region 1 with fail
  have hI := (Inv.two ht 25 [.int .i64 m, .int .i64 e] 53 [.bool false, .slice none 0 0, .int .i64 0, .bool false])
  have HZ : Hid (Own _ (w.heap.size + 1) 53 [.bool false, .slice none 0 0, .int .i64 0, .bool false]) := Lib.hid (hI.own 1 _ rfl)
  have hJ : Inv w [(w.heap.size, 25, [.int .i64 m, .int .i64 e])] _ := hI.init (bs := [_])
  clear hI
  go_region_held3 (fun w' => Inv w [(w.heap.size, 25, [.int .i64 m, .int .i64 e])] w' ∧ Tab w' ∧ w'.cell? ⟨w.heap.size, 0, none⟩ = some (.int .i64 m) ∧ w'.cell? ⟨w.heap.size, 1, none⟩ = some (.int .i64 e))
    ((refine ex_pack ?_; repeat' (first | (with_reducible assumption) | (with_reducible refine Inv.drew ?_) | (with_reducible refine Inv.alloc ?_ _) | (with_reducible refine Inv.call ?_ (by assumption)) | (with_reducible refine Inv.far ?_ ?_ ?_ ?_ ?_ _) | omega | (simp; done) | (simp; omega))))
    (first | (go_at_call 44; (with_reducible refine (HO.out _ (by repeat' (first | (with_reducible assumption) | (with_reducible refine Tab.alloc ?_ _) | (with_reducible refine Tab.drew ?_) | (with_reducible refine Tab.drewN ?_ _) | (with_reducible refine Tab.setCell ?_ ?_ ?_ _) | omega | (simp; done) | (simp; omega)))).mono ?_); rintro x w1 ⟨v, rfl, hs1, hk1, hnw1⟩; obtain ⟨b, off, cap, rfl, -⟩ := id hs1; have HS1 := Lib.hid hs1; have hbb := hnw1 _ _ _ _ rfl; clear hs1 hnw1; (try simp only [sz_drew] at hbb); (try simp only [World.size_alloc] at hbb); obtain ⟨hc1, hf1⟩ := bcell hk1.2; have ht1 := hk1.1; have hz1 := hk1.2.size; (try simp only [World.size_alloc] at hz1); (try simp only [sz_drew] at hz1); (try simp only [World.size_alloc] at hz1); (try simp only [sz_drew] at hc1 hf1)))
  go_wp2_with fail
  have hF := (((((HZ.out.drew).call hk1).put 0 (.bool (decide (m < 0)))).put 1 (.slice (some ⟨b, off, none⟩) (ds (mag m)).length cap)).put 2 (.int .i64 e)).put 3 (.bool false)
  refine bodyPost_ret (ret_own rfl hF rfl Tryd.underlying53 rfl (by kernel_rfl)) rfl ?_
  exact ⟨_, rfl, ((((HS1.out.far (by simp; omega) _).far (by simp; omega) _).far (by simp; omega) _).far (by simp; omega) _), (by repeat' (first | (with_reducible assumption) | (with_reducible exact Kept.refl ht) | (with_reducible refine Kept.alloc ?_ _) | (with_reducible refine Kept.drew ?_) | (with_reducible refine Kept.drewN ?_ _) | (with_reducible refine Kept.setCell ?_ ?_ _ ?_ ?_) | (with_reducible refine Kept.trans ?_ (by assumption)) | omega | (simp; done) | (simp; omega))), fun b' o' n' c' h => by simp at h; omega⟩
end Go.Proofs.YtanfhlkfmmglhaaDoor
