/- The reference's plus. Condition: the tables hold what their initialisers lay. -/
import Derived.Test.YtamkajckaomdlaaDoorGBrk
import Derived.OwnWalk
import Derived.Laws.OwnMore
import Derived.Test.YtamkajckaomdlaaDoorGLaw
import Derived.Deep.RegionHeld3
namespace Go.Proofs.YtamkajckaomdlaaDoor
open Go.ChangeShapes Go.WideShapes Go.ChangeAt Go.RowKit
attribute [local go_sem ↓] Go.wp_at_zero Go.wp_at_succ

/-- The digit at an index, 0 behind the last one. -/
def dgt0 (L : List Int) (i : Nat) : Int := (L[i]?).getD 0
theorem dgt0_in {L : List Int} {i : Nat} {x : Int} (h : L[i]? = some x) : dgt0 L i = x := by unfold dgt0; rw [h]; rfl
theorem dgt0_out {L : List Int} {i : Nat} (h : L.length ≤ i) : dgt0 L i = 0 := by unfold dgt0; rw [List.getElem?_eq_none h]; rfl
theorem lv_next (L : List Int) (i : Nat) : lv (L.take (i + 1)) = lv (L.take i) + 10 ^ i * (dgt0 L i).toNat := by
  rcases Nat.lt_or_ge i L.length with h | h
  · obtain ⟨x, hx⟩ := get_lt h
    rw [dgt0_in hx]
    exact lv_take hx
  · rw [dgt0_out h, List.take_of_length_le (by omega), List.take_of_length_le h]
    simp
theorem plus_step {l A B : List Int} {i : Nat} {c d : Int} (hl : l.length = i) (h : lv l + 10 ^ i * c.toNat = lv (A.take i) + lv (B.take i)) (hc : 0 ≤ c) (hx : 0 ≤ dgt0 A i) (hy : 0 ≤ dgt0 B i) (hd : d = c + dgt0 A i + dgt0 B i) :
    lv (l ++ [d % 10]) + 10 ^ (i + 1) * (d / 10).toNat = lv (A.take (i + 1)) + lv (B.take (i + 1)) := by
  have e : 10 ^ i * c.toNat + 10 ^ i * (dgt0 A i).toNat + 10 ^ i * (dgt0 B i).toNat = 10 ^ i * (d % 10).toNat + 10 ^ (i + 1) * (d / 10).toNat := by
    rw [Nat.pow_succ, Nat.mul_assoc, ← Nat.mul_add, ← Nat.mul_add, ← Nat.mul_add]
    congr 1
    omega
  rw [lv_snoc, hl, lv_next, lv_next]
  omega
theorem dgt0_dl {L : List Int} (h : Dl L) (i : Nat) : 0 ≤ dgt0 L i ∧ dgt0 L i ≤ 9 := by
  rcases Nat.lt_or_ge i L.length with h1 | h1
  · obtain ⟨x, hx⟩ := get_lt h1
    rw [dgt0_in hx]
    exact h.get hx
  · rw [dgt0_out h1]; omega
/-- What holds at each round's head of plus. -/
def PlRel (A B : List Int) (w : World) (o c i : Value) (wr : World) : Prop :=
  ∃ (n : Nat) (l : List Int) (z : Value) (k : Int), z = o ∧ c = .int .i64 k ∧ i = .int .i64 (n : Int) ∧ Ow wr w.heap.size z l ∧ Below w.heap.size w wr ∧ Hid (l.length = n) ∧ Dl l ∧ 0 ≤ k ∧ k ≤ 1 ∧ (n : Int) + k ≤ ((max A.length B.length : Nat) : Int) + 1 ∧ Hid (lv l + 10 ^ n * k.toNat = lv (A.take n) + lv (B.take n))
set_option maxRecDepth 100000 in
set_option maxHeartbeats 8000000 in
theorem plus_at (b off cap c off2 cap2 : Nat) (A B : List Int) (w : World) (ht : Tab w) (hA : Dl A) (hB : Dl B) (na : A.length ≤ 100000) (nb : B.length ≤ 100000)
    (h1 : b < w.heap.size) (h2 : c < w.heap.size) (g1 : ∀ j u, A[j]? = some u → w.cell? ⟨b, off + j, none⟩ = some (.int .i64 u)) (g2 : ∀ j u, B[j]? = some u → w.cell? ⟨c, off2 + j, none⟩ = some (.int .i64 u)) :
    Calls Tryd.prog 82 #[.slice (some ⟨b, off, none⟩) A.length cap, .slice (some ⟨c, off2, none⟩) B.length cap2] w fun e w' => ∃ v, e = .returned v ∧ Sl w' v (ds (lv A + lv B)) ∧ Kept w w' := by
  have G1 := Lib.hid g1
  have G2 := Lib.hid g2
  clear g1 g2
  have hlt := ht.lt
  have hlt0 := ht.lt0
  go_enter Tryd.func82, Tryd.ntmps82
  go_wp2_with fail
  go_loopw [5, 6, 7] (PlRel A B w) (fun _ c i _ => 2 * (max A.length B.length - (intOf i).toNat) + (intOf c).toNat)
  case atStart => exact ⟨0, [], _, 0, rfl, rfl, rfl, Ow.new w (Nat.le_refl _), (Below.refl _ _).alloc (Nat.le_refl _) _, Lib.hid rfl, Dl.nil, by omega, by omega, by omega, Lib.hid rfl⟩
  case round =>
    obtain ⟨n, l, z, k, rfl, rfl, rfl, hown, hbw, hl, hD, k0, k1, hn, hv⟩ := hrel
    have hbs := hbw.size
    have X := dgt0_dl hA n
    have Y := dgt0_dl hB n
    have tl : l.length ≤ 1000000 := by have := hl.out; omega
    by_cases ha : n < A.length
    · obtain ⟨x, hx⟩ := get_lt ha
      have c1 : wr.cell? ⟨b, off + n, none⟩ = some (.int .i64 x) := (hbw.cell (p := ⟨b, off + n, none⟩) h1).trans (G1.out n x hx)
      have hb1 : b < wr.heap.size := by omega
      rw [dgt0_in hx] at X
      have HX := Lib.hid (dgt0_in hx)
      clear hx
      by_cases hb : n < B.length
      · obtain ⟨y, hy⟩ := get_lt hb
        have c2 : wr.cell? ⟨c, off2 + n, none⟩ = some (.int .i64 y) := (hbw.cell (p := ⟨c, off2 + n, none⟩) h2).trans (G2.out n y hy)
        have hb2 : c < wr.heap.size := by omega
        rw [dgt0_in hy] at Y
        have HY := Lib.hid (dgt0_in hy)
        clear hy
        have HS := Lib.hid (plus_step (d := k + x + y) hl.out hv.out k0 (by rw [HX.out]; exact X.1) (by rw [HY.out]; exact Y.1) (by rw [HX.out, HY.out]))
        go_wp2_with (at_builtin; refine app1 rfl _ _ rfl wr w.heap.size z l ((k + x + y) % 10) ?_ ?_ hown tl hbs ?_; rfl; rfl; intro v' w1 hown' hb')
        clear hown
        go_wp2
        go_roundw
        case rel => exact ⟨n + 1, l ++ [(k + x + y) % 10], _, (k + x + y) / 10, rfl, rfl, by go_num, hown', hbw.trans hb', Lib.hid (by rw [List.length_append, hl.out]; rfl), hD.snoc (by omega) (by omega), by omega, by omega, by omega, HS⟩
        case measure => simp [intOf]; omega
      · have hbo := Lib.hid (dgt0_out (L := B) (i := n) (by omega))
        have HS := Lib.hid (plus_step (d := k + x) hl.out hv.out k0 (by rw [HX.out]; exact X.1) (by rw [hbo.out]; omega) (by rw [HX.out, hbo.out]; omega))
        go_wp2_with (at_builtin; refine app1 rfl _ _ rfl wr w.heap.size z l ((k + x) % 10) ?_ ?_ hown tl hbs ?_; rfl; rfl; intro v' w1 hown' hb')
        clear hown
        go_wp2
        go_roundw
        case rel => exact ⟨n + 1, l ++ [(k + x) % 10], _, (k + x) / 10, rfl, rfl, by go_num, hown', hbw.trans hb', Lib.hid (by rw [List.length_append, hl.out]; rfl), hD.snoc (by omega) (by omega), by omega, by omega, by omega, HS⟩
        case measure => simp [intOf]; omega
    · have hao := Lib.hid (dgt0_out (L := A) (i := n) (by omega))
      by_cases hb : n < B.length
      · obtain ⟨y, hy⟩ := get_lt hb
        have c2 : wr.cell? ⟨c, off2 + n, none⟩ = some (.int .i64 y) := (hbw.cell (p := ⟨c, off2 + n, none⟩) h2).trans (G2.out n y hy)
        have hb2 : c < wr.heap.size := by omega
        rw [dgt0_in hy] at Y
        have HY := Lib.hid (dgt0_in hy)
        clear hy
        have HS := Lib.hid (plus_step (d := k + y) hl.out hv.out k0 (by rw [hao.out]; omega) (by rw [HY.out]; exact Y.1) (by rw [hao.out, HY.out]; omega))
        go_wp2_with (at_builtin; refine app1 rfl _ _ rfl wr w.heap.size z l ((k + y) % 10) ?_ ?_ hown tl hbs ?_; rfl; rfl; intro v' w1 hown' hb')
        clear hown
        go_wp2
        go_roundw
        case rel => exact ⟨n + 1, l ++ [(k + y) % 10], _, (k + y) / 10, rfl, rfl, by go_num, hown', hbw.trans hb', Lib.hid (by rw [List.length_append, hl.out]; rfl), hD.snoc (by omega) (by omega), by omega, by omega, by omega, HS⟩
        case measure => simp [intOf]; omega
      · have hbo := Lib.hid (dgt0_out (L := B) (i := n) (by omega))
        by_cases hk : 0 < k
        · obtain rfl : k = 1 := by omega
          have HS := Lib.hid (plus_step (d := 1) hl.out hv.out k0 (by rw [hao.out]; omega) (by rw [hbo.out]; omega) (by rw [hao.out, hbo.out]; omega))
          go_wp2_with (at_builtin; refine app1 rfl _ _ rfl wr w.heap.size z l 1 ?_ ?_ hown tl hbs ?_; rfl; rfl; intro v' w1 hown' hb')
          clear hown
          go_wp2
          go_roundw
          case rel => exact ⟨n + 1, l ++ [1], _, 0, rfl, rfl, by go_num, hown', hbw.trans hb', Lib.hid (by rw [List.length_append, hl.out]; rfl), hD.snoc (by omega) (by omega), by omega, by omega, by omega, HS⟩
          case measure => simp [intOf]; omega
        · obtain rfl : k = 0 := by omega
          have HV : Hid (lv l = lv A + lv B) := Lib.hid (by
            have := hv.out
            rw [List.take_of_length_le (by omega), List.take_of_length_le (by omega)] at this
            simpa using this)
          have HT := Lib.hid (trim_any z l wr (ht.of_below hbw) hD tl hown.sl)
          clear hown X Y
          go_wp2_with (first | (go_at_call 89; (with_reducible refine HT.out.mono ?_); rintro e w1 ⟨v', rfl, hs, hk1⟩))
          go_returns
          exact ⟨_, rfl, by rw [← HV.out]; exact hs, Kept.trans (Kept.mk ht hbw) hk1⟩
/-- plus, of slices that read as the digits of numbers. -/
theorem refplus (v u : Value) (a b : Nat) (w : World) (ht : Tab w) (h1 : Sl w v (ds a)) (h2 : Sl w u (ds b)) (ha : dg a ≤ 100000) (hb : dg b ≤ 100000) :
    Calls Tryd.prog 82 #[v, u] w fun e w' => ∃ v, e = .returned v ∧ Sl w' v (ds (a + b)) ∧ Kept w w' := by
  obtain ⟨b1, o1, c1, rfl, p1, q1, r1, s1⟩ := h1
  obtain ⟨b2, o2, c2, rfl, p2, q2, r2, s2⟩ := h2
  have := plus_at b1 o1 c1 b2 o2 c2 (ds a) (ds b) w ht (ds_dl a) (ds_dl b) (by rw [ds_len]; exact ha) (by rw [ds_len]; exact hb) r1 r2 s1 s2
  rw [lv_ds, lv_ds] at this
  exact this
end Go.Proofs.YtamkajckaomdlaaDoor
/- The reference's small and away. Condition: the tables hold what their initialisers lay. -/
namespace Go.Proofs.YtamkajckaomdlaaDoor
open Go.ChangeShapes Go.WideShapes Go.ChangeAt Go.RowKit
attribute [local go_sem ↓] Go.wp_at_zero Go.wp_at_succ

theorem lv_drop {L : List Int} {i : Nat} {d : Int} (h : L[i]? = some d) : lv (L.drop i) = d.toNat + 10 * lv (L.drop (i + 1)) := by
  have hi : i < L.length := by
    rcases Nat.lt_or_ge i L.length with h1 | h1
    · exact h1
    · rw [List.getElem?_eq_none h1] at h; cases h
  rw [List.getElem?_eq_getElem hi] at h
  rw [List.drop_eq_getElem_cons hi, Option.some.inj h]
  rfl
theorem lv_drop_le (L : List Int) (k : Nat) : lv (L.drop k) ≤ lv L := by
  have h : lv L = lv (L.take k) + 10 ^ (L.take k).length * lv (L.drop k) := by
    conv => lhs; rw [← List.take_append_drop k L]
    rw [lv_append]
  have := Nat.le_mul_of_pos_left (lv (L.drop k)) (p10 (L.take k).length)
  omega
set_option maxRecDepth 100000 in
set_option maxHeartbeats 4000000 in
theorem small_at (b off cap : Nat) (L : List Int) (w : World) (hD : Dl L) (hl : L.length ≤ 1000000) (hv : lv L ≤ 1000000000000000000) (hg : ∀ j u, L[j]? = some u → w.cell? ⟨b, off + j, none⟩ = some (.int .i64 u)) :
    Calls Tryd.prog 95 #[.slice (some ⟨b, off, none⟩) L.length cap] w fun e w' => e = .returned (.int .i64 (lv L : Int)) ∧ w = w' := by
  have HG := Lib.hid hg
  have HD := Lib.hid hD
  have HV := Lib.hid hv
  clear hg hD hv
  go_enter Tryd.func95, Tryd.ntmps95
  go_wp2_with fail
  go_loop [3, 4] (fun m v => ∃ (k : Nat) (t : Int) (x : Int), m = .int .i64 x ∧ v = .int .i64 t ∧ Hid (t = (k : Int) - 1) ∧ k ≤ L.length ∧ Hid (x = (lv (L.drop k) : Int))) (fun _ v => (intOf v + 1).toNat)
  case atStart => exact ⟨L.length, _, _, rfl, rfl, Lib.hid rfl, Nat.le_refl _, Lib.hid (by rw [List.drop_length]; rfl)⟩
  case round =>
    obtain ⟨k, t, x, rfl, rfl, htk, hk, hx⟩ := hrel
    by_cases h0 : k = 0
    · subst h0
      obtain rfl : t = -1 := by have := htk.out; omega
      go_wp2_with fail
      go_ret
      exact ⟨by rw [hx.out]; rfl, rfl⟩
    · obtain ⟨i, rfl⟩ : ∃ i, k = i + 1 := ⟨k - 1, by omega⟩
      obtain rfl : t = (i : Int) := by have := htk.out; omega
      obtain ⟨d, hd⟩ := get_lt (show i < L.length by omega)
      have hcell := HG.out i d hd
      have h9 := HD.out.get hd
      have i0 : (0 : Int) ≤ (i : Int) := by omega
      have i1 : (i : Int) < (L.length : Int) := by omega
      have HX := Lib.hid hd
      have x0 : 0 ≤ x := by have := hx.out; omega
      have x1 : 10 * x + d ≤ 1000000000000000000 := by
        have a := lv_drop hd
        have b := lv_drop_le L i
        have c := HV.out
        have e := hx.out
        omega
      clear hd h0 htk
      go_wp2_with fail
      go_round
      case rel =>
        refine ⟨i, _, _, rfl, rfl, Lib.hid rfl, by omega, Lib.hid ?_⟩
        rw [lv_drop HX.out, hx.out]
        omega
      case measure => simp [intOf]
/-- small, of a slice that reads as the digits of a number. -/
theorem refsmall (v : Value) (n : Nat) (w : World) (h : Sl w v (ds n)) (hn : n ≤ 1000000000000000000) : Calls Tryd.prog 95 #[v] w fun e w' => e = .returned (.int .i64 (n : Int)) ∧ w = w' := by
  obtain ⟨b, off, cap, rfl, hc, hm, hb, hg⟩ := h
  have hd : dg n ≤ 1000000 := by
    have h1 := (dg_iff n 19).2 (Nat.lt_of_le_of_lt hn (by decide))
    omega
  have := small_at b off cap (ds n) w (ds_dl n) (by rw [ds_len]; exact hd) (by rw [lv_ds]; exact hn) hg
  rw [lv_ds] at this
  exact this

/-- A number is rounded away from 0, as the reference has it. -/
def awR (how : Int) (neg : Bool) (n : Nat) (rest : Int) (left : Bool) : Bool :=
  if how = 0 then decide (rest = 2) || (decide (rest = 1) && decide (n % 2 = 1)) else if how = 1 then left && !neg else if how = 2 then left && neg else false
theorem beq_dec (a b : Int) : (a == b) = decide (a = b) := by by_cases h : a = b <;> simp [h]
set_option maxRecDepth 100000 in
set_option maxHeartbeats 4000000 in
theorem refaway (how rest : Int) (neg left : Bool) (v : Value) (n : Nat) (w : World) (ht : Tab w) (h : Sl w v (ds n)) (hl : dg n ≤ 1000000) :
    Calls Tryd.prog 81 #[.int .i64 how, .bool neg, v, .int .i64 rest, .bool left] w fun e w' => e = .returned (.bool (awR how neg n rest left)) ∧ Kept w w' := by
  have hlt := ht.lt
  have hlt0 := ht.lt0
  obtain ⟨b, off, cap, rfl, hc, hm, hb, hg⟩ := h
  rw [ds_len] at *
  by_cases h0 : how = 0
  · subst h0
    by_cases hn : n = 0
    · subst hn
      rw [dg_zero] at *
      clear hg
      by_cases r2 : rest = 2
      · subst r2
        have HV : Hid (awR 0 neg 0 2 left = true) := Lib.hid (by unfold awR; simp)
        go_enter Tryd.func81, Tryd.ntmps81
        go_wp2_with fail
        go_returns
        exact ⟨by rw [HV.out]; rfl, Kept.refl ht⟩
      · have HV : Hid (awR 0 neg 0 rest left = false) := Lib.hid (by unfold awR; simp [r2])
        have f2 : (rest == 2) = false := by simpa using r2
        by_cases r1 : rest = 1
        · subst r1
          go_enter Tryd.func81, Tryd.ntmps81
          go_wp2_with fail
          go_returns
          exact ⟨by rw [HV.out]; rfl, Kept.refl ht⟩
        · have f1 : (rest == 1) = false := by simpa using r1
          go_enter Tryd.func81, Tryd.ntmps81
          go_wp2_with fail
          go_returns
          exact ⟨by rw [HV.out]; rfl, Kept.refl ht⟩
    · have hd : (ds n)[0]? = some ((n % 10 : Nat) : Int) := by rw [ds_step hn]; rfl
      have hcell : w.cell? ⟨b, off, none⟩ = some (.int .i64 ((n % 10 : Nat) : Int)) := by simpa using hg 0 _ hd
      have hln : 0 < dg n := by have := dg_ne hn; omega
      obtain ⟨d, hdd⟩ : ∃ d : Int, ((n % 10 : Nat) : Int) = d := ⟨_, rfl⟩
      rw [hdd] at hcell
      have d0 : 0 ≤ d := by omega
      have d9 : d ≤ 9 := by omega
      by_cases ho : n % 2 = 1
      all_goals
        first
          | (have fo : (d % 2 == 1) = true := by simp; omega)
          | (have fo : (d % 2 == 1) = false := by simp; omega)
        have HO := Lib.hid ho
        clear hg hd hdd hn ho
        by_cases r2 : rest = 2
        · subst r2
          have HV : Hid (awR 0 neg n 2 left = true) := Lib.hid (by unfold awR; simp)
          go_enter Tryd.func81, Tryd.ntmps81
          go_wp2_with fail
          go_returns
          exact ⟨by rw [HV.out]; rfl, Kept.refl ht⟩
        · have f2 : (rest == 2) = false := by simpa using r2
          by_cases r1 : rest = 1
          · subst r1
            have HV := Lib.hid (show awR 0 neg n 1 left = decide (n % 2 = 1) by unfold awR; simp)
            go_enter Tryd.func81, Tryd.ntmps81
            go_wp2_with fail
            go_returns
            exact ⟨by rw [HV.out]; simp [HO.out], Kept.refl ht⟩
          · have f1 : (rest == 1) = false := by simpa using r1
            have HV : Hid (awR 0 neg n rest left = false) := Lib.hid (by unfold awR; simp [r2, r1])
            go_enter Tryd.func81, Tryd.ntmps81
            go_wp2_with fail
            go_returns
            exact ⟨by rw [HV.out]; rfl, Kept.refl ht⟩
  · by_cases h1 : how = 1
    · subst h1
      have HR : Hid (awR 1 neg n rest left = (left && !neg)) := Lib.hid rfl
      clear hg
      cases left <;> cases neg
      all_goals
        go_enter Tryd.func81, Tryd.ntmps81
        go_wp2_with fail
        go_returns
        exact ⟨by rw [HR.out]; rfl, Kept.refl ht⟩
    · by_cases h2 : how = 2
      · subst h2
        have HR : Hid (awR 2 neg n rest left = (left && neg)) := Lib.hid rfl
        clear hg
        cases left <;> cases neg
        all_goals
          go_enter Tryd.func81, Tryd.ntmps81
          go_wp2_with fail
          go_returns
          exact ⟨by rw [HR.out]; rfl, Kept.refl ht⟩
      · have HR : Hid (awR how neg n rest left = false) := Lib.hid (by unfold awR; rw [if_neg h0, if_neg h1, if_neg h2])
        have e0 : (how == 0) = false := by simpa using h0
        have e1 : (how == 1) = false := by simpa using h1
        have e2 : (how == 2) = false := by simpa using h2
        clear hg
        go_enter Tryd.func81, Tryd.ntmps81
        go_wp2_with fail
        go_returns
        exact ⟨by rw [HR.out]; rfl, Kept.refl ht⟩
end Go.Proofs.YtamkajckaomdlaaDoor
/- The reference's form. Condition: the tables hold what their initialisers lay. -/
namespace Go.Proofs.YtamkajckaomdlaaDoor
open Go.ChangeShapes Go.WideShapes Go.ChangeAt Go.RowKit
attribute [local go_sem ↓] Go.wp_at_zero Go.wp_at_succ

set_option maxRecDepth 100000 in
set_option maxHeartbeats 4000000 in
theorem form_nil (neg : Bool) (e : Int) (v : Value) (w : World) (ht : Tab w) (h : Sl w v (ds 0)) :
    Calls Tryd.prog 83 #[.bool neg, v, .int .i64 e] w fun x w' => x = .returned (.agg #[.int .i64 0, .int .i64 0]) ∧ Kept w w' := by
  have hlt := ht.lt
  have hlt0 := ht.lt0
  obtain ⟨b, off, cap, rfl, hc, hm, hb, hg⟩ := h
  rw [ds_len, dg_zero] at *
  clear hg hc
  go_enter Tryd.func83, Tryd.ntmps83
  go_wp2_with fail
  go_loopw [1, 2] (fun v i wr => v = .slice (some ⟨b, off, none⟩) 0 cap ∧ wr = w.alloc (.cells #[.int .i64 0, .int .i64 0] 29)) (fun _ _ _ => 0)
  case atStart => exact ⟨rfl, rfl⟩
  case round =>
    obtain ⟨rfl, rfl⟩ := hrel
    go_wp2_with fail
    have hF := Own.new w 29 [.int .i64 0, .int .i64 0]
    refine bodyPost_ret (ret_own rfl hF rfl Tryd.underlying29 rfl (by kernel_rfl)) rfl ?_
    exact ⟨rfl, (by repeat' (first | (with_reducible assumption) | (with_reducible exact Kept.refl ht) | (with_reducible refine Kept.alloc ?_ _) | (with_reducible refine Kept.drew ?_) | (with_reducible refine Kept.drewN ?_ _) | (with_reducible refine Kept.setCell ?_ ?_ _ ?_ ?_) | (with_reducible refine Kept.trans ?_ (by assumption)) | omega | (simp; done) | (simp; omega)))⟩
/-- What holds at each round's head of form. -/
def FoRel (n : Nat) (e : Int) (w : World) (v i : Value) (wr : World) : Prop :=
  ∃ (m : Nat) (z : Value) (E : Int), z = v ∧ i = .int .i64 E ∧ wr = w.alloc (.cells #[.int .i64 0, .int .i64 0] 29) ∧ Hid (Sl w z (ds m)) ∧ Hid (m ≠ 0) ∧ Hid (m ≤ n) ∧ Hid (od m = od n) ∧ Hid (E + (tz m : Int) = e + (tz n : Int)) ∧ -200000 ≤ E ∧ E + (dg m : Int) ≤ 200000
set_option maxRecDepth 100000 in
set_option maxHeartbeats 8000000 in
theorem form_any (neg : Bool) (n : Nat) (e : Int) (v : Value) (w : World) (ht : Tab w) (h : Sl w v (ds n)) (h0 : n ≠ 0) (hn : n ≤ 1000000000000000000) (he : -100000 ≤ e) (he' : e ≤ 100000) :
    Calls Tryd.prog 83 #[.bool neg, v, .int .i64 e] w fun x w' => x = .returned (.agg #[.int .i64 (sg neg (od n)), .int .i64 (e + (tz n : Int))]) ∧ Kept w w' := by
  have hlt := ht.lt
  have hlt0 := ht.lt0
  have hd19 : dg n ≤ 19 := (dg_iff n 19).2 (Nat.lt_of_le_of_lt hn (by decide))
  have HN := Lib.hid hn
  have H0 := Lib.hid h0
  have HS := Lib.hid h
  clear hn h0 h
  go_enter Tryd.func83, Tryd.ntmps83
  go_wp2_with fail
  go_loopw [1, 2] (FoRel n e w) (fun v _ _ => match v with | .slice _ n _ => n | _ => 0)
  case atStart => exact ⟨n, _, e, rfl, rfl, rfl, HS, H0, Lib.hid (Nat.le_refl _), Lib.hid rfl, Lib.hid rfl, by omega, by omega⟩
  case round =>
    obtain ⟨m, z, E, rfl, rfl, rfl, hs, hm0, hmn, ho, htz, e1, e2⟩ := hrel
    obtain ⟨b, off, cap, rfl, hc, hm, hb, hg⟩ := hs.out
    have hst := ds_step hm0.out
    have hcell : w.cell? ⟨b, off, none⟩ = some (.int .i64 ((m % 10 : Nat) : Int)) := by
      have := hg 0 ((m % 10 : Nat) : Int) (by rw [hst]; rfl)
      simpa using this
    have hln := ds_len m
    have hmd := dg_step hm0.out
    have hbw : b < w.heap.size := hb
    by_cases hz : m % 10 = 0
    · have hq0 : m / 10 ≠ 0 := by have := hm0.out; omega
      have hq := dg_ne hq0
      rw [hz] at hcell
      have HG := Lib.hid hg
      have HST := Lib.hid hst
      have HZ := Lib.hid hz
      have HQ := Lib.hid hq0
      have hl2 : 2 ≤ (ds m).length := by omega
      have hc1 : 1 < cap := by omega
      have hlen : (ds (m / 10)).length = (ds m).length - 1 := by rw [ds_len, ds_len]; omega
      have HLN := Lib.hid hlen
      have hcx : cap ≤ maxLen := hm
      unfold maxLen at hm
      have HMD := Lib.hid hmd
      have HL := Lib.hid hln
      clear hg hst hz hq0 hlen hmd hln
      generalize (ds m).length = len at *
      go_wp2_with fail
      go_roundw
      case rel =>
        refine ⟨m / 10, _, E + 1, rfl, rfl, rfl, Lib.hid ⟨b, off + 1, cap - 1, by rw [HLN.out], by rw [HLN.out]; omega, by unfold maxLen; omega, hb, fun j u hj => ?_⟩, HQ, Lib.hid (by have := hmn.out; omega), Lib.hid ?_, Lib.hid ?_, by omega, by have := HMD.out; omega⟩
        · have := HG.out (j + 1) u (by rw [HST.out]; exact hj)
          rw [show off + 1 + j = off + (j + 1) by omega]
          exact this
        · rw [← ho.out]; exact (od_step hm0.out HZ.out).symm
        · have := tz_step hm0.out HZ.out
          have := htz.out
          omega
      case measure => simp; omega
    · have hx : (((m % 10 : Nat) : Int) == 0) = false := by simp; omega
      have hcm : m ≤ 1000000000000000000 := by have := hmn.out; have := HN.out; omega
      have HF : Hid (od m = m ∧ tz m = 0) := Lib.hid ⟨od_none hz, tz_none hz⟩
      have HSM := Lib.hid (fun w' (hw : Below w.heap.size w w') => refsmall (.slice (some ⟨b, off, none⟩) (ds m).length cap) m w' (hs.out.below hw) hcm)
      have hl1 : 0 < (ds m).length := by omega
      generalize hdd : ((m % 10 : Nat) : Int) = d at hcell hx
      clear hg hst hln hmd hdd hz
      generalize (ds m).length = len at *
      have HV : Hid ((m : Int) = (od n : Int) ∧ E = e + (tz n : Int)) := Lib.hid ⟨by have := HF.out.1; have := ho.out; omega, by have := HF.out.2; have := htz.out; omega⟩
      cases neg
      · go_wp2_with (first | (go_at_call 95; (with_reducible refine (HSM.out _ ((Below.refl _ _).alloc (Nat.le_refl _) _)).mono ?_); rintro e w' ⟨rfl, rfl⟩))
        have hF := Own.new w 29 [.int .i64 (m : Int), .int .i64 E]
        refine bodyPost_ret (ret_own rfl hF rfl Tryd.underlying29 rfl (by kernel_rfl)) rfl ?_
        exact ⟨by unfold sg; rw [if_neg (by simp), ← HV.out.1, ← HV.out.2], (by repeat' (first | (with_reducible assumption) | (with_reducible exact Kept.refl ht) | (with_reducible refine Kept.alloc ?_ _) | (with_reducible refine Kept.drew ?_) | (with_reducible refine Kept.drewN ?_ _) | (with_reducible refine Kept.setCell ?_ ?_ _ ?_ ?_) | (with_reducible refine Kept.trans ?_ (by assumption)) | omega | (simp; done) | (simp; omega)))⟩
      · go_wp2_with (first | (go_at_call 95; (with_reducible refine (HSM.out _ ((Below.refl _ _).alloc (Nat.le_refl _) _)).mono ?_); rintro e w' ⟨rfl, rfl⟩))
        have hF := Own.new w 29 [.int .i64 (-(m : Int)), .int .i64 E]
        refine bodyPost_ret (ret_own rfl hF rfl Tryd.underlying29 rfl (by kernel_rfl)) rfl ?_
        exact ⟨by unfold sg; rw [if_pos rfl, ← HV.out.1, ← HV.out.2], (by repeat' (first | (with_reducible assumption) | (with_reducible exact Kept.refl ht) | (with_reducible refine Kept.alloc ?_ _) | (with_reducible refine Kept.drew ?_) | (with_reducible refine Kept.drewN ?_ _) | (with_reducible refine Kept.setCell ?_ ?_ _ ?_ ?_) | (with_reducible refine Kept.trans ?_ (by assumption)) | omega | (simp; done) | (simp; omega)))⟩
end Go.Proofs.YtamkajckaomdlaaDoor
/- The reference's Digits, Valid, right and Exactly. Condition: the tables hold what their initialisers lay. -/
namespace Go.Proofs.YtamkajckaomdlaaDoor
open Go.ChangeShapes Go.WideShapes Go.ChangeAt Go.RowKit
attribute [local go_sem ↓] Go.wp_at_zero Go.wp_at_succ

theorem refDigits (s : Int) (w : World) : Calls Tryd.prog 9 #[.int .i64 s] w fun e w' => e = .returned (.tuple #[.int .i64 (dz s), .int .i64 (sx s)]) ∧ w = w' := by
  rcases sz_or s with ⟨h, h'⟩ | ⟨h, h'⟩
  · have HD : Hid (dz s = (pr s : Int) ∧ sx s = 0) := Lib.hid (by unfold dz sx; rw [h]; simp)
    rcases h' with rfl | rfl | rfl
    all_goals
      clear h
      go_enter Tryd.func9, Tryd.ntmps9
      go_wp2_with fail
      go_returns
      exact ⟨by rw [HD.out.1, HD.out.2]; rfl, rfl⟩
  · have HD : Hid (dz s = 0 ∧ sx s = 1) := Lib.hid (by unfold dz sx; rw [h]; simp)
    have e1 : (s == -1) = false := by simp; omega
    have e2 : (s == 0) = false := by simp; omega
    have e3 : (s == 1) = false := by simp; omega
    clear h h'
    go_enter Tryd.func9, Tryd.ntmps9
    go_wp2_with fail
    go_returns
    exact ⟨by rw [HD.out.1, HD.out.2]; rfl, rfl⟩
set_option maxRecDepth 100000 in
set_option maxHeartbeats 4000000 in
theorem refValid (s m e : Int) (w : World) (ht : Tab w) (lo : -9223372036854775808 ≤ m) (hi : m ≤ 9223372036854775807) :
    Calls Tryd.prog 11 #[.int .i64 s, .agg #[.int .i64 m, .int .i64 e]] w fun x w' => x = .returned (.bool (vld s m e)) ∧ Kept w w' := by
  have hlt := ht.lt
  have hlt0 := ht.lt0
  have hDg := fun w => refDigits s w
  unfold dz sx at hDg
  cases hs : isSz s
  · rw [hs] at hDg
    simp only [Bool.false_eq_true, if_false] at hDg
    have HD := Lib.hid hDg
    have HV : Hid (vld s m e = false) := Lib.hid (by unfold vld; rw [hs]; rfl)
    clear hDg hs lo hi
    go_enter Tryd.func11, Tryd.ntmps11
    go_wp2_with (first | (go_at_call 9; (with_reducible refine (HD.out _).mono ?_); rintro e w' ⟨rfl, rfl⟩))
    go_returns
    exact ⟨by rw [HV.out]; rfl, (by repeat' (first | (with_reducible assumption) | (with_reducible exact Kept.refl ht) | (with_reducible refine Kept.alloc ?_ _) | (with_reducible refine Kept.drew ?_) | (with_reducible refine Kept.drewN ?_ _) | (with_reducible refine Kept.setCell ?_ ?_ _ ?_ ?_) | (with_reducible refine Kept.trans ?_ (by assumption)) | omega | (simp; done) | (simp; omega)))⟩
  · rw [hs] at hDg
    simp only [if_true] at hDg
    have HD := Lib.hid hDg
    by_cases hm : m = 0
    · subst hm
      have HV : Hid (vld s 0 e = decide (e = 0)) := Lib.hid (by unfold vld; rw [hs]; simp)
      by_cases he : e = 0
      · subst he
        clear hDg hs lo hi
        go_enter Tryd.func11, Tryd.ntmps11
        go_wp2_with (first | (go_at_call 9; (with_reducible refine (HD.out _).mono ?_); rintro e w' ⟨rfl, rfl⟩))
        go_returns
        exact ⟨by rw [HV.out]; rfl, (by repeat' (first | (with_reducible assumption) | (with_reducible exact Kept.refl ht) | (with_reducible refine Kept.alloc ?_ _) | (with_reducible refine Kept.drew ?_) | (with_reducible refine Kept.drewN ?_ _) | (with_reducible refine Kept.setCell ?_ ?_ _ ?_ ?_) | (with_reducible refine Kept.trans ?_ (by assumption)) | omega | (simp; done) | (simp; omega)))⟩
      · have heb : (e == 0) = false := by simpa using he
        have HE := Lib.hid he
        clear hDg hs lo hi he
        go_enter Tryd.func11, Tryd.ntmps11
        go_wp2_with (first | (go_at_call 9; (with_reducible refine (HD.out _).mono ?_); rintro e w' ⟨rfl, rfl⟩))
        go_returns
        exact ⟨by rw [HV.out, decide_eq_false HE.out]; rfl, (by repeat' (first | (with_reducible assumption) | (with_reducible exact Kept.refl ht) | (with_reducible refine Kept.alloc ?_ _) | (with_reducible refine Kept.drew ?_) | (with_reducible refine Kept.drewN ?_ _) | (with_reducible refine Kept.setCell ?_ ?_ _ ?_ ?_) | (with_reducible refine Kept.trans ?_ (by assumption)) | omega | (simp; done) | (simp; omega)))⟩
    · have hn : mag m ≠ 0 := by unfold mag; omega
      have hmb : (m == 0) = false := by simpa using hm
      have HO := Lib.hid (fun w ht => Of_any m w ht lo hi)
      have hdg : dg (mag m) ≤ 20 := (dg_iff _ 20).2 (by have : (10 : Nat) ^ 20 = 100000000000000000000 := by decide
                                                        rw [this]; unfold mag; omega)
      have hd1 := dg_ne hn
      have hp := pr_pos s
      obtain ⟨P, hP⟩ : ∃ P : Int, (pr s : Int) = P := ⟨_, rfl⟩
      obtain ⟨l, hl⟩ : ∃ l, dg (mag m) = l := ⟨_, rfl⟩
      obtain ⟨d, hd⟩ : ∃ d : Int, ((mag m % 10 : Nat) : Int) = d := ⟨_, rfl⟩
      have hV : vld s m e = (decide (d ≠ 0) && decide ((l : Int) ≤ P) && decide (-400 ≤ e) && decide (e ≤ P + 400 - (l : Int))) := by
        unfold vld
        rw [hs, if_neg hm, Bool.true_and, Bool.eq_iff_iff]
        simp only [Bool.and_eq_true, decide_eq_true_eq]
        unfold mag at *
        omega
      rw [hP] at HD
      have p1 : 7 ≤ P := by omega
      have p2 : P ≤ 18 := by omega
      have l1 : l ≤ 20 := by omega
      have l0 : 0 < l := by omega
      have HV := Lib.hid hV
      have HDS : Hid ((ds (mag m)).length = l ∧ (ds (mag m))[0]? = some (.ofNat (mag m % 10))) := Lib.hid ⟨by rw [ds_len, hl], by rw [ds_step hn]; rfl⟩
      have HDD := Lib.hid hd
      clear hDg hs lo hi hm hn hdg hd1 hp hP hl hd hV
      go_enter Tryd.func11, Tryd.ntmps11
      go_upto_region 7 with (first | (go_at_call 9; (with_reducible refine (HD.out _).mono ?_); rintro e w' ⟨rfl, rfl⟩) | (go_at_call 43; (with_reducible refine (HO.out _ (by repeat' (first | (with_reducible assumption) | (with_reducible refine Tab.alloc ?_ _) | (with_reducible refine Tab.drew ?_) | (with_reducible refine Tab.drewN ?_ _) | (with_reducible refine Tab.setCell ?_ ?_ ?_ _) | omega | (simp; done) | (simp; omega)))).mono ?_); rintro x w1 ⟨v, rfl, hs1, hk1, hnw1⟩))
      have hI := (Inv.one ht 29 [.int .i64 m, .int .i64 e]).call hk1
      (have x0 : w1.cell? ⟨w.heap.size, 0, none⟩ = some (.int .i64 m) := (hI.own 0 _ rfl).cell 0; have x1 : w1.cell? ⟨w.heap.size, 1, none⟩ = some (.int .i64 e) := (hI.own 0 _ rfl).cell 1; have xf := fun i => (hI.own 0 _ rfl).frozen i; have xl : w.heap.size < w1.heap.size := (hI.own 0 _ rfl).lt)
      have hK := hI.kept
      obtain ⟨b, off, cap, rfl, hc, hm, hb, hg⟩ := hs1
      have hcell : w1.cell? ⟨b, off, none⟩ = some (.int .i64 d) := by
        have := hg 0 _ HDS.out.2
        rw [← HDD.out]
        simpa using this
      rw [HDS.out.1] at *
      clear hg hI hk1
      by_cases t1 : d = 0
      · subst t1
        go_wp2_with fail
        go_returns
        exact ⟨by rw [HV.out]; simp [], hK⟩
      · have f1 : (d != 0) = true := by simpa using t1
        have T1 := Lib.hid t1
        clear t1
        by_cases t2 : (l : Int) ≤ P
        · by_cases t3 : -400 ≤ e
          · by_cases t4 : e ≤ P + 400 - (l : Int)
            · have F := Lib.hid (And.intro T1.out (And.intro t2 (And.intro t3 t4)))
              go_wp2_with fail
              go_returns
              exact ⟨by rw [HV.out]; simp [F.out.1, F.out.2.1, F.out.2.2.1, F.out.2.2.2], hK⟩
            · have F := Lib.hid t4
              go_wp2_with fail
              go_returns
              exact ⟨by rw [HV.out]; simp; have := F.out; omega, hK⟩
          · have F := Lib.hid t3
            go_wp2_with fail
            go_returns
            exact ⟨by rw [HV.out]; simp; have := F.out; omega, hK⟩
        · have F := Lib.hid t2
          go_wp2_with fail
          go_returns
          exact ⟨by rw [HV.out]; simp; have := F.out; omega, hK⟩
/-- right: what is wrong with a size, a direction and two reals. -/
theorem refright (s how a e b f : Int) (w : World) (ht : Tab w) (la : -9223372036854775808 ≤ a) (ha : a ≤ 9223372036854775807) (lb : -9223372036854775808 ≤ b) (hb : b ≤ 9223372036854775807) :
    Calls Tryd.prog 48 #[.int .i64 s, .int .i64 how, .agg #[.int .i64 a, .int .i64 e], .agg #[.int .i64 b, .int .i64 f]] w fun x w' => x = .returned (.int .i64 (ckR s how [(a, e), (b, f)])) ∧ Kept w w' := by
  have hlt := ht.lt
  have hlt0 := ht.lt0
  have hDg := fun w => refDigits s w
  unfold dz sx at hDg
  cases hs : isSz s
  · rw [hs] at hDg
    simp only [Bool.false_eq_true, if_false] at hDg
    have HD := Lib.hid hDg
    have HV : Hid (ckR s how [(a, e), (b, f)] = 1) := Lib.hid (by unfold ckR; rw [hs]; rfl)
    clear hDg hs la ha lb hb
    go_enter Tryd.func48, Tryd.ntmps48
    go_wp2_with (first | (go_at_call 9; (with_reducible refine (HD.out _).mono ?_); rintro e w' ⟨rfl, rfl⟩))
    go_returns
    exact ⟨by rw [HV.out]; rfl, (by repeat' (first | (with_reducible assumption) | (with_reducible exact Kept.refl ht) | (with_reducible refine Kept.alloc ?_ _) | (with_reducible refine Kept.drew ?_) | (with_reducible refine Kept.drewN ?_ _) | (with_reducible refine Kept.setCell ?_ ?_ _ ?_ ?_) | (with_reducible refine Kept.trans ?_ (by assumption)) | omega | (simp; done) | (simp; omega)))⟩
  · rw [hs] at hDg
    simp only [if_true] at hDg
    have HD := Lib.hid hDg
    clear hDg
    by_cases h1 : how < 0
    · have HV : Hid (ckR s how [(a, e), (b, f)] = 1) := Lib.hid (by unfold ckR; rw [hs, show isDir how = false from decide_eq_false (by omega)]; rfl)
      clear hs la ha lb hb
      go_enter Tryd.func48, Tryd.ntmps48
      go_wp2_with (first | (go_at_call 9; (with_reducible refine (HD.out _).mono ?_); rintro e w' ⟨rfl, rfl⟩))
      go_returns
      exact ⟨by rw [HV.out]; rfl, (by repeat' (first | (with_reducible assumption) | (with_reducible exact Kept.refl ht) | (with_reducible refine Kept.alloc ?_ _) | (with_reducible refine Kept.drew ?_) | (with_reducible refine Kept.drewN ?_ _) | (with_reducible refine Kept.setCell ?_ ?_ _ ?_ ?_) | (with_reducible refine Kept.trans ?_ (by assumption)) | omega | (simp; done) | (simp; omega)))⟩
    · by_cases h2 : 3 < how
      · have HV : Hid (ckR s how [(a, e), (b, f)] = 1) := Lib.hid (by unfold ckR; rw [hs, show isDir how = false from decide_eq_false (by omega)]; rfl)
        clear hs la ha lb hb
        go_enter Tryd.func48, Tryd.ntmps48
        go_wp2_with (first | (go_at_call 9; (with_reducible refine (HD.out _).mono ?_); rintro e w' ⟨rfl, rfl⟩))
        go_returns
        exact ⟨by rw [HV.out]; rfl, (by repeat' (first | (with_reducible assumption) | (with_reducible exact Kept.refl ht) | (with_reducible refine Kept.alloc ?_ _) | (with_reducible refine Kept.drew ?_) | (with_reducible refine Kept.drewN ?_ _) | (with_reducible refine Kept.setCell ?_ ?_ _ ?_ ?_) | (with_reducible refine Kept.trans ?_ (by assumption)) | omega | (simp; done) | (simp; omega)))⟩
      · have hck : ckR s how [(a, e), (b, f)] = if (vld s a e && vld s b f) = true then 0 else 11 := by
          unfold ckR ckO
          rw [hs, show isDir how = true from decide_eq_true (by omega)]
          simp
        have v1 := fun w ht => refValid s a e w ht la ha
        have v2 := fun w ht => refValid s b f w ht lb hb
        rw [hck]
        clear hs hck la ha lb hb
        cases hv1 : vld s a e
        · rw [hv1] at v1
          have V1 := Lib.hid v1
          clear v1 v2 hv1
          go_enter Tryd.func48, Tryd.ntmps48
          go_wp2_with (first | (go_at_call 9; (with_reducible refine (HD.out _).mono ?_); rintro e w' ⟨rfl, rfl⟩) | (go_at_call 11; (with_reducible refine (V1.out _ (by repeat' (first | (with_reducible assumption) | (with_reducible refine Tab.alloc ?_ _) | (with_reducible refine Tab.drew ?_) | (with_reducible refine Tab.drewN ?_ _) | (with_reducible refine Tab.setCell ?_ ?_ ?_ _) | omega | (simp; done) | (simp; omega)))).mono ?_); rintro e w1 ⟨rfl, hk1⟩; obtain ⟨hc1, hf1⟩ := bcell hk1.2; have ht1 := hk1.1; have hz1 := hk1.2.size; (try simp only [World.size_alloc] at hz1); (try simp only [sz_drew] at hz1); (try simp only [sz_drewN] at hz1); (try simp only [World.size_alloc] at hz1); (try simp only [sz_drew] at hc1 hf1); (try simp only [sz_drewN] at hc1 hf1); (try have hw1 : w.heap.size < w1.heap.size := by omega); (try have hv1 : w.heap.size + 1 < w1.heap.size := by omega); (try have hu1 : w.heap.size + 2 < w1.heap.size := by omega)))
          go_returns
          exact ⟨by simp, (by repeat' (first | (with_reducible assumption) | (with_reducible exact Kept.refl ht) | (with_reducible refine Kept.alloc ?_ _) | (with_reducible refine Kept.drew ?_) | (with_reducible refine Kept.drewN ?_ _) | (with_reducible refine Kept.setCell ?_ ?_ _ ?_ ?_) | (with_reducible refine Kept.trans ?_ (by assumption)) | omega | (simp; done) | (simp; omega)))⟩
        · rw [hv1] at v1
          have V1 := Lib.hid v1
          cases hv2 : vld s b f
          all_goals
            rw [hv2] at v2
            have V2 := Lib.hid v2
            clear v1 v2 hv1 hv2
            go_enter Tryd.func48, Tryd.ntmps48
            go_wp2_with (first | (go_at_call 9; (with_reducible refine (HD.out _).mono ?_); rintro e w' ⟨rfl, rfl⟩) | (go_at_call 11; (with_reducible refine (V1.out _ (by repeat' (first | (with_reducible assumption) | (with_reducible refine Tab.alloc ?_ _) | (with_reducible refine Tab.drew ?_) | (with_reducible refine Tab.drewN ?_ _) | (with_reducible refine Tab.setCell ?_ ?_ ?_ _) | omega | (simp; done) | (simp; omega)))).mono ?_); rintro e w1 ⟨rfl, hk1⟩; obtain ⟨hc1, hf1⟩ := bcell hk1.2; have ht1 := hk1.1; have hz1 := hk1.2.size; (try simp only [World.size_alloc] at hz1); (try simp only [sz_drew] at hz1); (try simp only [sz_drewN] at hz1); (try simp only [World.size_alloc] at hz1); (try simp only [sz_drew] at hc1 hf1); (try simp only [sz_drewN] at hc1 hf1); (try have hw1 : w.heap.size < w1.heap.size := by omega); (try have hv1 : w.heap.size + 1 < w1.heap.size := by omega); (try have hu1 : w.heap.size + 2 < w1.heap.size := by omega)) | (go_at_call 11; (with_reducible refine (V2.out _ (by repeat' (first | (with_reducible assumption) | (with_reducible refine Tab.alloc ?_ _) | (with_reducible refine Tab.drew ?_) | (with_reducible refine Tab.drewN ?_ _) | (with_reducible refine Tab.setCell ?_ ?_ ?_ _) | omega | (simp; done) | (simp; omega)))).mono ?_); rintro e w2 ⟨rfl, hk2⟩; obtain ⟨hc2, hf2⟩ := bcell hk2.2; have ht2 := hk2.1; have hz2 := hk2.2.size; (try simp only [World.size_alloc] at hz2); (try simp only [sz_drew] at hz2); (try simp only [sz_drewN] at hz2); (try simp only [World.size_alloc] at hz2); (try simp only [sz_drew] at hc2 hf2); (try simp only [sz_drewN] at hc2 hf2); (try have hw2 : w.heap.size < w2.heap.size := by omega); (try have hv2 : w.heap.size + 1 < w2.heap.size := by omega); (try have hu2 : w.heap.size + 2 < w2.heap.size := by omega)))
            go_returns
            exact ⟨by simp, (by repeat' (first | (with_reducible assumption) | (with_reducible exact Kept.refl ht) | (with_reducible refine Kept.alloc ?_ _) | (with_reducible refine Kept.drew ?_) | (with_reducible refine Kept.drewN ?_ _) | (with_reducible refine Kept.setCell ?_ ?_ _ ?_ ?_) | (with_reducible refine Kept.trans ?_ (by assumption)) | omega | (simp; done) | (simp; omega)))⟩
end Go.Proofs.YtamkajckaomdlaaDoor
/- The reference's shift. Condition: the tables hold what their initialisers lay. -/
namespace Go.Proofs.YtamkajckaomdlaaDoor
open Go.ChangeShapes Go.WideShapes Go.ChangeAt Go.RowKit
attribute [local go_sem ↓] Go.wp_at_zero Go.wp_at_succ

/-- append of a slice to a slice of the call's own. -/
theorem appN {ops : Array Oper} {rest : List Oper} {o : Oper} {a : Act} {Q : Exit → Act → World → Prop} (hgd : o.guard = none) (s x : Operand)
    (ho : o.op = .call { callee := .builtin .append, args := #[s, x], argTypes := #[50, 50] })
    (W : World) (base : Nat) (v : Value) (l M : List Int) (b off c : Nat) (hs : a.eval s = v) (hx : a.eval x = .slice (some ⟨b, off, none⟩) M.length c) (hM : ∀ j u, M[j]? = some u → W.cell? ⟨b, off + j, none⟩ = some (.int .i64 u))
    (hown : Ow W base v l) (hl : l.length + M.length ≤ 1000000) (hbase : base ≤ W.heap.size)
    (h : ∀ v' w', Ow w' base v' (l ++ M) → Below base W w' → wpList Tryd.prog ops Q rest (a.put o.dst v') w') : wpList Tryd.prog ops Q (o :: rest) a W := by
  obtain ⟨i0, hi, hz0, hz1, hz2⟩ := info_parts info_int
  obtain ⟨g, cap, hv, hg, _⟩ := hown.form
  refine wpList_append_own _ hgd s x 50 ho base 3 i0 (.int .i64 0) 1 8 Tryd.underlying50 hi hz0 hz1 hz2 rfl (by decide) v l.length (l.map (Value.int .i64)) hs hown.1 ⟨b, off, none⟩ M.length c (M.map (Value.int .i64)) hx (by simp) ?_ ?_ ?_ ?_ ?_ ?_
  · intro j u hj
    rw [List.getElem?_map] at hj
    cases hm : M[j]? with
    | none => rw [hm] at hj; cases hj
    | some d =>
      rw [hm] at hj
      obtain rfl := Option.some.inj hj
      have := hM j d hm
      by_cases h0 : j = 0
      · subst h0; simpa [Addr.add] using this
      · simpa [Addr.add, h0] using this
  · intro u hu
    obtain ⟨d, _, rfl⟩ := List.mem_map.1 hu
    rfl
  · unfold maxLen; omega
  · omega
  · exact hbase
  · intro v' w' h1 h2 h3
    refine h v' w' ⟨?_, ?_⟩ ?_
    · simpa using h1
    · intro he
      exact hown.2 (h3.1 he).1
    · refine (Below.refl base W).grown h2 hbase ?_
      intro k hk
      rw [hv] at hk
      simp [Value.ownBlock] at hk
      omega
/-- make of n zeros. -/
theorem mkN {ops : Array Oper} {rest : List Oper} {o : Oper} {a : Act} {Q : Exit → Act → World → Prop} (hgd : o.guard = none) (s : Operand) (ho : o.op = Op.makeSlice 50 s s)
    (W : World) (base n : Nat) (hs : a.eval s = .int .i64 (n : Int)) (hn : n ≤ 1000000) (hbase : base ≤ W.heap.size)
    (h : ∀ w', Ow w' base (.slice (some ⟨W.heap.size, 0, none⟩) n n) (List.replicate n 0) → Below base W w' → wpList Tryd.prog ops Q rest (a.put o.dst (.slice (some ⟨W.heap.size, 0, none⟩) n n)) w') : wpList Tryd.prog ops Q (o :: rest) a W := by
  obtain ⟨i0, hi, hz0, hz1, hz2⟩ := info_parts info_int
  refine wpList_make_full W hgd s s 50 ho base 3 i0 (.int .i64 0) 1 Tryd.underlying50 hi hz0 hz1 .i64 .i64 (n : Int) (n : Int) n hs hs rfl rfl (by rw [hz2]; omega) (by unfold maxLen; omega) hbase ?_
  intro w' h1 h2
  refine h w' ⟨?_, by simp⟩ ((Below.refl base W).grown h2 hbase (fun k hk => by cases hk))
  have e : (madeCells (Value.int .i64 0).cells (n * 1)).toList = (List.replicate n (0 : Int)).map (Value.int .i64) := by
    rw [List.map_replicate, Nat.mul_one]
    exact toList_madeCells_one _ _
  rw [e] at h1
  simpa using h1
theorem ds_mul {n : Nat} (k : Nat) (h : n ≠ 0) : ds (n * 10 ^ k) = List.replicate k 0 ++ ds n := by
  induction k with
  | zero => simp
  | succ k ih =>
    have h1 : n * 10 ^ (k + 1) = n * 10 ^ k * 10 := by rw [Nat.pow_succ, Nat.mul_assoc]
    have h2 : n * 10 ^ (k + 1) ≠ 0 := by rw [h1]; have := Nat.mul_pos (Nat.pos_of_ne_zero h) (p10 k); omega
    rw [ds_step h2, h1, Nat.mul_mod_left, Nat.mul_div_cancel _ (by omega), ih, List.replicate_succ]
    rfl
set_option maxRecDepth 100000 in
set_option maxHeartbeats 4000000 in
theorem shift_zero (b off cap : Nat) (k : Int) (w : World) (_ht : Tab w) : Calls Tryd.prog 58 #[.slice (some ⟨b, off, none⟩) 0 cap, .int .i64 k] w fun e w' => e = .returned (.slice (some ⟨b, off, none⟩) 0 cap) ∧ w = w' := by
  go_enter Tryd.func58, Tryd.ntmps58
  go_wp2_with fail
  go_returns
  exact ⟨rfl, rfl⟩
set_option maxRecDepth 100000 in
set_option maxHeartbeats 4000000 in
/-- shift, of a slice that reads as the digits of a number. -/
theorem refshift (v : Value) (n k : Nat) (w : World) (ht : Tab w) (h : Sl w v (ds n)) (hn : dg n ≤ 100000) (hk : k ≤ 100000) :
    Calls Tryd.prog 58 #[v, .int .i64 (k : Int)] w fun e w' => ∃ v', e = .returned v' ∧ Sl w' v' (ds (n * 10 ^ k)) ∧ Kept w w' := by
  have hlt := ht.lt
  have hlt0 := ht.lt0
  obtain ⟨b, off, cap, rfl, hc, hm, hb, hg⟩ := h
  by_cases h0 : n = 0
  · subst h0
    rw [Nat.zero_mul]
    have hl : (ds 0).length = 0 := by rw [ds_len, dg_zero]
    rw [hl]
    refine (shift_zero b off cap k w ht).mono fun e w' ⟨he, hw⟩ => ?_
    subst hw
    exact ⟨_, he, ⟨b, off, cap, by rw [hl], by omega, hm, hb, hg⟩, Kept.refl ht⟩
  · have hl0 : 0 < (ds n).length := by rw [ds_len]; have := dg_ne h0; omega
    have hl1 : (ds n).length ≤ 100000 := by rw [ds_len]; exact hn
    have HM := Lib.hid (ds_mul k h0)
    have HG := Lib.hid hg
    have hk0 : (0 : Int) ≤ (k : Int) := by omega
    clear hg h0
    obtain ⟨M, hM⟩ : ∃ M, ds n = M := ⟨_, rfl⟩
    rw [hM] at HM HG hl0 hl1 hc ⊢
    clear hM
    go_enter Tryd.func58, Tryd.ntmps58
    go_wp2_with (first | (at_make; refine mkN rfl _ rfl w w.heap.size k ?_ (by omega) (Nat.le_refl _) ?_; rfl; intro w1 ho1 hb1) | (at_builtin; refine appN rfl _ _ rfl w1 w.heap.size _ (List.replicate k 0) M b off cap ?_ ?_ (fun j u hj => (hb1.cell (p := ⟨b, off + j, none⟩) hb).trans (HG.out j u hj)) ho1 (by rw [List.length_replicate]; omega) hb1.size ?_; rfl; rfl; intro v2 w2 ho2 hb2))
    go_returns
    exact ⟨_, rfl, by rw [HM.out]; exact ho2.sl, Kept.mk ht (hb1.trans hb2)⟩
end Go.Proofs.YtamkajckaomdlaaDoor
/- The reference's Exactly. Condition: the tables hold what their initialisers lay. -/
namespace Go.Proofs.YtamkajckaomdlaaDoor
open Go.ChangeShapes Go.WideShapes Go.ChangeAt Go.RowKit
attribute [local go_sem ↓] Go.wp_at_zero Go.wp_at_succ

/-- The reference's exact number, as a value. -/
def exV (neg : Bool) (v : Value) (e : Int) (more : Bool) : Array Value := #[.bool neg, v, .int .i64 e, .bool more]
/-- A store elsewhere. -/
theorem Sl.far {w : World} {b off n c : Nat} {l : List Int} (h : Sl w (.slice (some ⟨b, off, none⟩) n c) l) {p : Addr} (hp : b ≠ p.block) (u : Value) : Sl (w.setCell p u) (.slice (some ⟨b, off, none⟩) n c) l := by
  obtain ⟨b', off', cap, he, h2, h3, h4, h5⟩ := h
  simp at he
  obtain ⟨⟨rfl, rfl⟩, rfl, rfl⟩ := he
  refine ⟨b, off, c, rfl, h2, h3, by simpa using h4, fun j v hj => ?_⟩
  rw [World.cell?_setCell_other]
  · exact h5 j v hj
  · intro he
    exact hp (by rw [he])
theorem ex_pack {w w' : World} {m e : Int} (h : Inv w [(w.heap.size, 29, [.int .i64 m, .int .i64 e])] w') :
    Inv w [(w.heap.size, 29, [.int .i64 m, .int .i64 e])] w' ∧ Tab w' ∧ w'.cell? ⟨w.heap.size, 0, none⟩ = some (.int .i64 m) ∧ w'.cell? ⟨w.heap.size, 1, none⟩ = some (.int .i64 e) :=
  ⟨h, h.kept.1, (h.own 0 _ rfl).cell 0, (h.own 0 _ rfl).cell 1⟩
set_option maxRecDepth 100000 in
set_option maxHeartbeats 4000000 in
theorem refExactly (m e : Int) (w : World) (ht : Tab w) (lo : -9223372036854775808 ≤ m) (hi : m ≤ 9223372036854775807) :
    Calls Tryd.prog 49 #[.agg #[.int .i64 m, .int .i64 e]] w fun x w' => ∃ v, x = .returned (.agg #[.bool (decide (m < 0)), v, .int .i64 e, .bool false]) ∧ Sl w' v (ds (mag m)) ∧ Kept w w' ∧ Nw w.heap.size v := by
  have hlt := ht.lt
  have hlt0 := ht.lt0
  have HO := Lib.hid (fun w ht => Of_any m w ht lo hi)
  clear lo hi
  go_enter Tryd.func49, Tryd.ntmps49
  go_upto_region 1 with fail
  have hI := (Inv.two ht 29 [.int .i64 m, .int .i64 e] 61 [.bool false, .slice none 0 0, .int .i64 0, .bool false])
  have HZ : Hid (Own _ (w.heap.size + 1) 61 [.bool false, .slice none 0 0, .int .i64 0, .bool false]) := Lib.hid (hI.own 1 _ rfl)
  have hJ : Inv w [(w.heap.size, 29, [.int .i64 m, .int .i64 e])] _ := hI.init (bs := [_])
  clear hI
  go_region_held3 (fun w' => Inv w [(w.heap.size, 29, [.int .i64 m, .int .i64 e])] w' ∧ Tab w' ∧ w'.cell? ⟨w.heap.size, 0, none⟩ = some (.int .i64 m) ∧ w'.cell? ⟨w.heap.size, 1, none⟩ = some (.int .i64 e))
    ((refine ex_pack ?_; repeat' (first | (with_reducible assumption) | (with_reducible refine Inv.drew ?_) | (with_reducible refine Inv.alloc ?_ _) | (with_reducible refine Inv.call ?_ (by assumption)) | (with_reducible refine Inv.far ?_ ?_ ?_ ?_ ?_ _) | omega | (simp; done) | (simp; omega))))
    (first | (go_at_call 43; (with_reducible refine (HO.out _ (by repeat' (first | (with_reducible assumption) | (with_reducible refine Tab.alloc ?_ _) | (with_reducible refine Tab.drew ?_) | (with_reducible refine Tab.drewN ?_ _) | (with_reducible refine Tab.setCell ?_ ?_ ?_ _) | omega | (simp; done) | (simp; omega)))).mono ?_); rintro x w1 ⟨v, rfl, hs1, hk1, hnw1⟩; obtain ⟨b, off, cap, rfl, -⟩ := id hs1; have HS1 := Lib.hid hs1; have hbb := hnw1 _ _ _ _ rfl; clear hs1 hnw1; (try simp only [sz_drew] at hbb); (try simp only [World.size_alloc] at hbb); obtain ⟨hc1, hf1⟩ := bcell hk1.2; have ht1 := hk1.1; have hz1 := hk1.2.size; (try simp only [World.size_alloc] at hz1); (try simp only [sz_drew] at hz1); (try simp only [World.size_alloc] at hz1); (try simp only [sz_drew] at hc1 hf1)))
  go_wp2_with fail
  have hF := (((((HZ.out.drew).call hk1).put 0 (.bool (decide (m < 0)))).put 1 (.slice (some ⟨b, off, none⟩) (ds (mag m)).length cap)).put 2 (.int .i64 e)).put 3 (.bool false)
  refine bodyPost_ret (ret_own rfl hF rfl Tryd.underlying61 rfl (by kernel_rfl)) rfl ?_
  exact ⟨_, rfl, ((((HS1.out.far (by simp; omega) _).far (by simp; omega) _).far (by simp; omega) _).far (by simp; omega) _), (by repeat' (first | (with_reducible assumption) | (with_reducible exact Kept.refl ht) | (with_reducible refine Kept.alloc ?_ _) | (with_reducible refine Kept.drew ?_) | (with_reducible refine Kept.drewN ?_ _) | (with_reducible refine Kept.setCell ?_ ?_ _ ?_ ?_) | (with_reducible refine Kept.trans ?_ (by assumption)) | omega | (simp; done) | (simp; omega))), fun b' o' n' c' h => by simp at h; omega⟩
end Go.Proofs.YtamkajckaomdlaaDoor
