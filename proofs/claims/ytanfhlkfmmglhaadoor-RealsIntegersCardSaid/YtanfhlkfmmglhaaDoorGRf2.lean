/- The reference's plus. Condition: the tables hold what their initialisers lay. -/
import Derived.Test.YtanfhlkfmmglhaaDoorGBrk
import Derived.OwnWalk
import Derived.Laws.OwnMore
import Derived.RegionTactic
import Derived.BigRegion
namespace Go.Proofs.YtanfhlkfmmglhaaDoor
open Go.ChangeShapes Go.WideShapes Go.ChangeAt Go.RowKit
attribute [local go_sem ↓] Go.wp_at_zero Go.wp_at_succ

/-- The digit at an index, 0 behind the last one. -/
def dgt0 (L : List Int) (i : Nat) : Int := (L[i]?).getD 0
theorem dgt0_in {L : List Int} {i : Nat} {x : Int} (h : L[i]? = some x) : dgt0 L i = x := by unfold dgt0; rw [h]; rfl
theorem dgt0_out {L : List Int} {i : Nat} (h : L.length ≤ i) : dgt0 L i = 0 := by unfold dgt0; rw [List.getElem?_eq_none h]; rfl
theorem lv_next (L : List Int) (i : Nat) : lv (L.take (i + 1)) = lv (L.take i) + 10 ^ i * (dgt0 L i).toNat := by
  rcases Nat.lt_or_ge i L.length with h | h
  · obtain ⟨x, hx⟩ := get_lt h
    rw [dgt0_in hx]
    exact lv_take hx
  · rw [dgt0_out h, List.take_of_length_le (by omega), List.take_of_length_le h]
    simp
theorem plus_step {l A B : List Int} {i : Nat} {c d : Int} (hl : l.length = i) (h : lv l + 10 ^ i * c.toNat = lv (A.take i) + lv (B.take i)) (hc : 0 ≤ c) (hx : 0 ≤ dgt0 A i) (hy : 0 ≤ dgt0 B i) (hd : d = c + dgt0 A i + dgt0 B i) :
    lv (l ++ [d % 10]) + 10 ^ (i + 1) * (d / 10).toNat = lv (A.take (i + 1)) + lv (B.take (i + 1)) := by
  have e : 10 ^ i * c.toNat + 10 ^ i * (dgt0 A i).toNat + 10 ^ i * (dgt0 B i).toNat = 10 ^ i * (d % 10).toNat + 10 ^ (i + 1) * (d / 10).toNat := by
    rw [Nat.pow_succ, Nat.mul_assoc, ← Nat.mul_add, ← Nat.mul_add, ← Nat.mul_add]
    congr 1
    omega
  rw [lv_snoc, hl, lv_next, lv_next]
  omega
theorem dgt0_dl {L : List Int} (h : Dl L) (i : Nat) : 0 ≤ dgt0 L i ∧ dgt0 L i ≤ 9 := by
  rcases Nat.lt_or_ge i L.length with h1 | h1
  · obtain ⟨x, hx⟩ := get_lt h1
    rw [dgt0_in hx]
    exact h.get hx
  · rw [dgt0_out h1]; omega
/-- What holds at each round's head of plus. -/
def PlRel (A B : List Int) (w : World) (o c i : Value) (wr : World) : Prop :=
  ∃ (n : Nat) (l : List Int) (z : Value) (k : Int), z = o ∧ c = .int .i64 k ∧ i = .int .i64 (n : Int) ∧ Ow wr w.heap.size z l ∧ Below w.heap.size w wr ∧ Hid (l.length = n) ∧ Dl l ∧ 0 ≤ k ∧ k ≤ 1 ∧ (n : Int) + k ≤ ((max A.length B.length : Nat) : Int) + 1 ∧ Hid (lv l + 10 ^ n * k.toNat = lv (A.take n) + lv (B.take n))
set_option maxRecDepth 100000 in
set_option maxHeartbeats 8000000 in
theorem plus_at (b off cap c off2 cap2 : Nat) (A B : List Int) (w : World) (ht : Tab w) (hA : Dl A) (hB : Dl B) (na : A.length ≤ 100000) (nb : B.length ≤ 100000)
    (h1 : b < w.heap.size) (h2 : c < w.heap.size) (g1 : ∀ j u, A[j]? = some u → w.cell? ⟨b, off + j, none⟩ = some (.int .i64 u)) (g2 : ∀ j u, B[j]? = some u → w.cell? ⟨c, off2 + j, none⟩ = some (.int .i64 u)) :
    Calls Tryd.prog 77 #[.slice (some ⟨b, off, none⟩) A.length cap, .slice (some ⟨c, off2, none⟩) B.length cap2] w fun e w' => ∃ v, e = .returned v ∧ Sl w' v (ds (lv A + lv B)) ∧ Kept w w' := by
  have G1 := Lib.hid g1
  have G2 := Lib.hid g2
  clear g1 g2
  have hlt := ht.lt
  have hlt0 := ht.lt0
  go_enter Tryd.func77, Tryd.ntmps77
  go_wp2_with fail
  go_loopw [5, 6, 7] (PlRel A B w) (fun _ c i _ => 2 * (max A.length B.length - (intOf i).toNat) + (intOf c).toNat)
  case atStart => exact ⟨0, [], _, 0, rfl, rfl, rfl, Ow.new w (Nat.le_refl _), (Below.refl _ _).alloc (Nat.le_refl _) _, Lib.hid rfl, Dl.nil, by omega, by omega, by omega, Lib.hid rfl⟩
  case round =>
    obtain ⟨n, l, z, k, rfl, rfl, rfl, hown, hbw, hl, hD, k0, k1, hn, hv⟩ := hrel
    have hbs := hbw.size
    have X := dgt0_dl hA n
    have Y := dgt0_dl hB n
    have tl : l.length ≤ 1000000 := by have := hl.out; omega
    by_cases ha : n < A.length
    · obtain ⟨x, hx⟩ := get_lt ha
      have c1 : wr.cell? ⟨b, off + n, none⟩ = some (.int .i64 x) := (hbw.cell (p := ⟨b, off + n, none⟩) h1).trans (G1.out n x hx)
      have hb1 : b < wr.heap.size := by omega
      rw [dgt0_in hx] at X
      have HX := Lib.hid (dgt0_in hx)
      clear hx
      by_cases hb : n < B.length
      · obtain ⟨y, hy⟩ := get_lt hb
        have c2 : wr.cell? ⟨c, off2 + n, none⟩ = some (.int .i64 y) := (hbw.cell (p := ⟨c, off2 + n, none⟩) h2).trans (G2.out n y hy)
        have hb2 : c < wr.heap.size := by omega
        rw [dgt0_in hy] at Y
        have HY := Lib.hid (dgt0_in hy)
        clear hy
        have HS := Lib.hid (plus_step (d := k + x + y) hl.out hv.out k0 (by rw [HX.out]; exact X.1) (by rw [HY.out]; exact Y.1) (by rw [HX.out, HY.out]))
        go_wp2_with (at_builtin; refine app1 rfl _ _ rfl wr w.heap.size z l ((k + x + y) % 10) ?_ ?_ hown tl hbs ?_; rfl; rfl; intro v' w1 hown' hb')
        clear hown
        go_wp2
        go_roundw
        case rel => exact ⟨n + 1, l ++ [(k + x + y) % 10], _, (k + x + y) / 10, rfl, rfl, by go_num, hown', hbw.trans hb', Lib.hid (by rw [List.length_append, hl.out]; rfl), hD.snoc (by omega) (by omega), by omega, by omega, by omega, HS⟩
        case measure => simp [intOf]; omega
      · have hbo := Lib.hid (dgt0_out (L := B) (i := n) (by omega))
        have HS := Lib.hid (plus_step (d := k + x) hl.out hv.out k0 (by rw [HX.out]; exact X.1) (by rw [hbo.out]; omega) (by rw [HX.out, hbo.out]; omega))
        go_wp2_with (at_builtin; refine app1 rfl _ _ rfl wr w.heap.size z l ((k + x) % 10) ?_ ?_ hown tl hbs ?_; rfl; rfl; intro v' w1 hown' hb')
        clear hown
        go_wp2
        go_roundw
        case rel => exact ⟨n + 1, l ++ [(k + x) % 10], _, (k + x) / 10, rfl, rfl, by go_num, hown', hbw.trans hb', Lib.hid (by rw [List.length_append, hl.out]; rfl), hD.snoc (by omega) (by omega), by omega, by omega, by omega, HS⟩
        case measure => simp [intOf]; omega
    · have hao := Lib.hid (dgt0_out (L := A) (i := n) (by omega))
      by_cases hb : n < B.length
      · obtain ⟨y, hy⟩ := get_lt hb
        have c2 : wr.cell? ⟨c, off2 + n, none⟩ = some (.int .i64 y) := (hbw.cell (p := ⟨c, off2 + n, none⟩) h2).trans (G2.out n y hy)
        have hb2 : c < wr.heap.size := by omega
        rw [dgt0_in hy] at Y
        have HY := Lib.hid (dgt0_in hy)
        clear hy
        have HS := Lib.hid (plus_step (d := k + y) hl.out hv.out k0 (by rw [hao.out]; omega) (by rw [HY.out]; exact Y.1) (by rw [hao.out, HY.out]; omega))
        go_wp2_with (at_builtin; refine app1 rfl _ _ rfl wr w.heap.size z l ((k + y) % 10) ?_ ?_ hown tl hbs ?_; rfl; rfl; intro v' w1 hown' hb')
        clear hown
        go_wp2
        go_roundw
        case rel => exact ⟨n + 1, l ++ [(k + y) % 10], _, (k + y) / 10, rfl, rfl, by go_num, hown', hbw.trans hb', Lib.hid (by rw [List.length_append, hl.out]; rfl), hD.snoc (by omega) (by omega), by omega, by omega, by omega, HS⟩
        case measure => simp [intOf]; omega
      · have hbo := Lib.hid (dgt0_out (L := B) (i := n) (by omega))
        by_cases hk : 0 < k
        · obtain rfl : k = 1 := by omega
          have HS := Lib.hid (plus_step (d := 1) hl.out hv.out k0 (by rw [hao.out]; omega) (by rw [hbo.out]; omega) (by rw [hao.out, hbo.out]; omega))
          go_wp2_with (at_builtin; refine app1 rfl _ _ rfl wr w.heap.size z l 1 ?_ ?_ hown tl hbs ?_; rfl; rfl; intro v' w1 hown' hb')
          clear hown
          go_wp2
          go_roundw
          case rel => exact ⟨n + 1, l ++ [1], _, 0, rfl, rfl, by go_num, hown', hbw.trans hb', Lib.hid (by rw [List.length_append, hl.out]; rfl), hD.snoc (by omega) (by omega), by omega, by omega, by omega, HS⟩
          case measure => simp [intOf]; omega
        · obtain rfl : k = 0 := by omega
          have HV : Hid (lv l = lv A + lv B) := Lib.hid (by
            have := hv.out
            rw [List.take_of_length_le (by omega), List.take_of_length_le (by omega)] at this
            simpa using this)
          have HT := Lib.hid (trim_any z l wr (ht.of_below hbw) hD tl hown.sl)
          clear hown X Y
          go_wp2_with (first | (go_at_call 81; (with_reducible refine HT.out.mono ?_); rintro e w1 ⟨v', rfl, hs, hk1⟩))
          go_returns
          exact ⟨_, rfl, by rw [← HV.out]; exact hs, Kept.trans (Kept.mk ht hbw) hk1⟩
/-- plus, of slices that read as the digits of numbers. -/
theorem refplus (v u : Value) (a b : Nat) (w : World) (ht : Tab w) (h1 : Sl w v (ds a)) (h2 : Sl w u (ds b)) (ha : dg a ≤ 100000) (hb : dg b ≤ 100000) :
    Calls Tryd.prog 77 #[v, u] w fun e w' => ∃ v, e = .returned v ∧ Sl w' v (ds (a + b)) ∧ Kept w w' := by
  obtain ⟨b1, o1, c1, rfl, p1, q1, r1, s1⟩ := h1
  obtain ⟨b2, o2, c2, rfl, p2, q2, r2, s2⟩ := h2
  have := plus_at b1 o1 c1 b2 o2 c2 (ds a) (ds b) w ht (ds_dl a) (ds_dl b) (by rw [ds_len]; exact ha) (by rw [ds_len]; exact hb) r1 r2 s1 s2
  rw [lv_ds, lv_ds] at this
  exact this
end Go.Proofs.YtanfhlkfmmglhaaDoor
/- The reference's minus. Condition: the tables hold what their initialisers lay. -/
namespace Go.Proofs.YtanfhlkfmmglhaaDoor
open Go.ChangeShapes Go.WideShapes Go.ChangeAt Go.RowKit
attribute [local go_sem ↓] Go.wp_at_zero Go.wp_at_succ

theorem minus_step {l A B : List Int} {i : Nat} {c d c' : Int} (hl : l.length = i) (h : lv l + lv (B.take i) = lv (A.take i) + 10 ^ i * c.toNat) (hc : 0 ≤ c) (hc' : 0 ≤ c') (hx : 0 ≤ dgt0 A i) (hy : 0 ≤ dgt0 B i) (h0 : 0 ≤ d) (hd : d + c + dgt0 B i = dgt0 A i + 10 * c') :
    lv (l ++ [d]) + lv (B.take (i + 1)) = lv (A.take (i + 1)) + 10 ^ (i + 1) * c'.toNat := by
  have e : 10 ^ i * d.toNat + 10 ^ i * c.toNat + 10 ^ i * (dgt0 B i).toNat = 10 ^ i * (dgt0 A i).toNat + 10 ^ (i + 1) * c'.toNat := by
    rw [Nat.pow_succ, Nat.mul_assoc, ← Nat.mul_add, ← Nat.mul_add, ← Nat.mul_add]
    congr 1
    omega
  rw [lv_snoc, hl, lv_next, lv_next]
  omega
/-- What holds at each round's head of minus. -/
def MiRel (A B : List Int) (w : World) (o c i : Value) (wr : World) : Prop :=
  ∃ (n : Nat) (l : List Int) (z : Value) (k : Int), z = o ∧ c = .int .i64 k ∧ i = .int .i64 (n : Int) ∧ Ow wr w.heap.size z l ∧ Below w.heap.size w wr ∧ Hid (l.length = n) ∧ Dl l ∧ 0 ≤ k ∧ k ≤ 1 ∧ n ≤ A.length ∧ Hid (lv l + lv (B.take n) = lv (A.take n) + 10 ^ n * k.toNat)
set_option maxRecDepth 100000 in
set_option maxHeartbeats 8000000 in
theorem minus_at (b off cap c off2 cap2 : Nat) (A B : List Int) (w : World) (ht : Tab w) (hA : Dl A) (hB : Dl B) (na : A.length ≤ 100000) (nb : B.length ≤ A.length) (hle : lv B ≤ lv A)
    (h1 : b < w.heap.size) (h2 : c < w.heap.size) (g1 : ∀ j u, A[j]? = some u → w.cell? ⟨b, off + j, none⟩ = some (.int .i64 u)) (g2 : ∀ j u, B[j]? = some u → w.cell? ⟨c, off2 + j, none⟩ = some (.int .i64 u)) :
    Calls Tryd.prog 80 #[.slice (some ⟨b, off, none⟩) A.length cap, .slice (some ⟨c, off2, none⟩) B.length cap2] w fun e w' => ∃ v, e = .returned v ∧ Sl w' v (ds (lv A - lv B)) ∧ Kept w w' := by
  have G1 := Lib.hid g1
  have G2 := Lib.hid g2
  have HLE := Lib.hid hle
  clear g1 g2 hle
  have hlt := ht.lt
  have hlt0 := ht.lt0
  go_enter Tryd.func80, Tryd.ntmps80
  go_wp2_with fail
  go_loopw [5, 6, 7] (MiRel A B w) (fun _ _ i _ => A.length - (intOf i).toNat)
  case atStart => exact ⟨0, [], _, 0, rfl, rfl, rfl, Ow.new w (Nat.le_refl _), (Below.refl _ _).alloc (Nat.le_refl _) _, Lib.hid rfl, Dl.nil, by omega, by omega, by omega, Lib.hid rfl⟩
  case round =>
    obtain ⟨n, l, z, k, rfl, rfl, rfl, hown, hbw, hl, hD, k0, k1, hn, hv⟩ := hrel
    have hbs := hbw.size
    have X := dgt0_dl hA n
    have Y := dgt0_dl hB n
    have tl : l.length ≤ 1000000 := by have := hl.out; omega
    by_cases ha : n < A.length
    · obtain ⟨x, hx⟩ := get_lt ha
      have c1 : wr.cell? ⟨b, off + n, none⟩ = some (.int .i64 x) := (hbw.cell (p := ⟨b, off + n, none⟩) h1).trans (G1.out n x hx)
      have hb1 : b < wr.heap.size := by omega
      rw [dgt0_in hx] at X
      have HX := Lib.hid (dgt0_in hx)
      clear hx
      by_cases hb : n < B.length
      · obtain ⟨y, hy⟩ := get_lt hb
        have c2 : wr.cell? ⟨c, off2 + n, none⟩ = some (.int .i64 y) := (hbw.cell (p := ⟨c, off2 + n, none⟩) h2).trans (G2.out n y hy)
        have hb2 : c < wr.heap.size := by omega
        rw [dgt0_in hy] at Y
        have HY := Lib.hid (dgt0_in hy)
        clear hy
        by_cases hd : x - k - y < 0
        · have HS := Lib.hid (minus_step (d := x - k - y + 10) (c' := 1) hl.out hv.out k0 (by omega) (by rw [HX.out]; exact X.1) (by rw [HY.out]; exact Y.1) (by omega) (by rw [HX.out, HY.out]; omega))
          go_wp2_with (at_builtin; refine app1 rfl _ _ rfl wr w.heap.size z l (x - k - y + 10) ?_ ?_ hown tl hbs ?_; rfl; rfl; intro v' w1 hown' hb')
          clear hown
          go_wp2
          go_roundw
          case rel => exact ⟨n + 1, l ++ [x - k - y + 10], _, 1, rfl, rfl, by go_num, hown', hbw.trans hb', Lib.hid (by rw [List.length_append, hl.out]; rfl), hD.snoc (by omega) (by omega), by omega, by omega, by omega, HS⟩
          case measure => simp [intOf]; omega
        · have HS := Lib.hid (minus_step (d := x - k - y) (c' := 0) hl.out hv.out k0 (by omega) (by rw [HX.out]; exact X.1) (by rw [HY.out]; exact Y.1) (by omega) (by rw [HX.out, HY.out]; omega))
          go_wp2_with (at_builtin; refine app1 rfl _ _ rfl wr w.heap.size z l (x - k - y) ?_ ?_ hown tl hbs ?_; rfl; rfl; intro v' w1 hown' hb')
          clear hown
          go_wp2
          go_roundw
          case rel => exact ⟨n + 1, l ++ [x - k - y], _, 0, rfl, rfl, by go_num, hown', hbw.trans hb', Lib.hid (by rw [List.length_append, hl.out]; rfl), hD.snoc (by omega) (by omega), by omega, by omega, by omega, HS⟩
          case measure => simp [intOf]; omega
      · have hbo := Lib.hid (dgt0_out (L := B) (i := n) (by omega))
        by_cases hd : x - k < 0
        · have HS := Lib.hid (minus_step (d := x - k + 10) (c' := 1) hl.out hv.out k0 (by omega) (by rw [HX.out]; exact X.1) (by rw [hbo.out]; omega) (by omega) (by rw [HX.out, hbo.out]; omega))
          go_wp2_with (at_builtin; refine app1 rfl _ _ rfl wr w.heap.size z l (x - k + 10) ?_ ?_ hown tl hbs ?_; rfl; rfl; intro v' w1 hown' hb')
          clear hown
          go_wp2
          go_roundw
          case rel => exact ⟨n + 1, l ++ [x - k + 10], _, 1, rfl, rfl, by go_num, hown', hbw.trans hb', Lib.hid (by rw [List.length_append, hl.out]; rfl), hD.snoc (by omega) (by omega), by omega, by omega, by omega, HS⟩
          case measure => simp [intOf]; omega
        · have HS := Lib.hid (minus_step (d := x - k) (c' := 0) hl.out hv.out k0 (by omega) (by rw [HX.out]; exact X.1) (by rw [hbo.out]; omega) (by omega) (by rw [HX.out, hbo.out]; omega))
          go_wp2_with (at_builtin; refine app1 rfl _ _ rfl wr w.heap.size z l (x - k) ?_ ?_ hown tl hbs ?_; rfl; rfl; intro v' w1 hown' hb')
          clear hown
          go_wp2
          go_roundw
          case rel => exact ⟨n + 1, l ++ [x - k], _, 0, rfl, rfl, by go_num, hown', hbw.trans hb', Lib.hid (by rw [List.length_append, hl.out]; rfl), hD.snoc (by omega) (by omega), by omega, by omega, by omega, HS⟩
          case measure => simp [intOf]; omega
    · have HV : Hid (lv l = lv A - lv B) := Lib.hid (by
        have h := hv.out
        have e := HLE.out
        have hlt := lv_lt hD
        rw [hl.out] at hlt
        rw [List.take_of_length_le (by omega), List.take_of_length_le (by omega)] at h
        rcases (by omega : k = 0 ∨ k = 1) with rfl | rfl
        · simp at h; omega
        · simp at h; omega)
      have HT := Lib.hid (trim_any z l wr (ht.of_below hbw) hD tl hown.sl)
      clear hown X Y
      go_wp2_with (first | (go_at_call 81; (with_reducible refine HT.out.mono ?_); rintro e w1 ⟨v', rfl, hs, hk1⟩))
      go_returns
      exact ⟨_, rfl, by rw [← HV.out]; exact hs, Kept.trans (Kept.mk ht hbw) hk1⟩
/-- minus, of slices that read as the digits of numbers. -/
theorem refminus (v u : Value) (a b : Nat) (w : World) (ht : Tab w) (h1 : Sl w v (ds a)) (h2 : Sl w u (ds b)) (ha : dg a ≤ 100000) (hba : b ≤ a) :
    Calls Tryd.prog 80 #[v, u] w fun e w' => ∃ v, e = .returned v ∧ Sl w' v (ds (a - b)) ∧ Kept w w' := by
  obtain ⟨b1, o1, c1, rfl, p1, q1, r1, s1⟩ := h1
  obtain ⟨b2, o2, c2, rfl, p2, q2, r2, s2⟩ := h2
  have := minus_at b1 o1 c1 b2 o2 c2 (ds a) (ds b) w ht (ds_dl a) (ds_dl b) (by rw [ds_len]; exact ha) (by rw [ds_len, ds_len]; exact dg_mono hba) (by rw [lv_ds, lv_ds]; exact hba) r1 r2 s1 s2
  rw [lv_ds, lv_ds] at this
  exact this
end Go.Proofs.YtanfhlkfmmglhaaDoor
/- Products of lists of digits: plain mathematics. No condition. -/
namespace Go.Proofs.YtanfhlkfmmglhaaDoor

theorem lv_set {l : List Int} {j : Nat} {x : Int} (v : Int) (h : l[j]? = some x) : lv (l.set j v) + 10 ^ j * x.toNat = lv l + 10 ^ j * v.toNat := by
  induction l generalizing j with
  | nil => simp at h
  | cons d l ih =>
    cases j with
    | zero => simp at h; subst h; simp [lv]; omega
    | succ j =>
      have := ih (j := j) (by simpa using h)
      show d.toNat + 10 * lv (l.set j v) + 10 ^ (j + 1) * x.toNat = d.toNat + 10 * lv l + 10 ^ (j + 1) * v.toNat
      rw [Nat.pow_succ, Nat.mul_comm _ 10, Nat.mul_assoc, Nat.mul_assoc]
      omega
theorem lv_zeros (n : Nat) : lv (List.replicate n 0) = 0 := by
  induction n with
  | zero => rfl
  | succ n ih => rw [List.replicate_succ]; show (0 : Int).toNat + 10 * lv (List.replicate n 0) = 0; rw [ih]; rfl
/-- All are between two bounds. -/
def Bdd (l : List Int) (M : Int) : Prop := ∀ d ∈ l, 0 ≤ d ∧ d ≤ M
theorem Bdd.get {l : List Int} {M : Int} (h : Bdd l M) {j : Nat} {x : Int} (hj : l[j]? = some x) : 0 ≤ x ∧ x ≤ M := h x (List.mem_of_getElem? hj)
theorem Bdd.mono {l : List Int} {M K : Int} (h : Bdd l M) (hk : M ≤ K) : Bdd l K := fun d hd => ⟨(h d hd).1, Int.le_trans (h d hd).2 hk⟩
theorem Bdd.set {l : List Int} {M : Int} (h : Bdd l M) (j : Nat) {v : Int} (h0 : 0 ≤ v) (h1 : v ≤ M) : Bdd (l.set j v) M := fun d hd => by
  rcases List.mem_or_eq_of_mem_set hd with hd | rfl
  · exact h d hd
  · exact ⟨h0, h1⟩
theorem Bdd.zeros (n : Nat) (M : Int) (h : 0 ≤ M) : Bdd (List.replicate n 0) M := fun d hd => by
  obtain ⟨_, rfl⟩ := List.mem_replicate.1 hd
  exact ⟨Int.le_refl _, h⟩
/-- One product of digits more. -/
theorem tm_step {A B L : List Int} {i k : Nat} {a b x V : Int} (hx : L[i + k]? = some x) (h0 : 0 ≤ x) (ha : 0 ≤ a) (hb : 0 ≤ b) (hB : B[k]? = some b) (hV : V = x + a * b)
    (h : lv L = lv (A.take i) * lv B + 10 ^ i * (a.toNat * lv (B.take k))) : lv (L.set (i + k) V) = lv (A.take i) * lv B + 10 ^ i * (a.toNat * lv (B.take (k + 1))) := by
  have h1 := lv_set V hx
  have hab : (a * b).toNat = a.toNat * b.toNat := by
    obtain ⟨n, rfl⟩ := Int.eq_ofNat_of_zero_le ha
    obtain ⟨m, rfl⟩ := Int.eq_ofNat_of_zero_le hb
    rw [← Int.natCast_mul]; rfl
  have hp : 0 ≤ a * b := Int.mul_nonneg ha hb
  have e : V.toNat = x.toNat + a.toNat * b.toNat := by rw [← hab]; omega
  rw [e, Nat.mul_add, h] at h1
  rw [lv_take hB, Nat.mul_add (a.toNat), Nat.mul_add (10 ^ i)]
  have e2 : 10 ^ i * (a.toNat * (10 ^ k * b.toNat)) = 10 ^ (i + k) * (a.toNat * b.toNat) := by
    rw [Nat.pow_add, Nat.mul_assoc]
    congr 1
    rw [Nat.mul_left_comm]
  omega
theorem tm_row {A B L : List Int} {i : Nat} {a : Int} (hA : A[i]? = some a) (h : lv L = lv (A.take i) * lv B + 10 ^ i * (a.toNat * lv (B.take B.length))) : lv L = lv (A.take (i + 1)) * lv B := by
  rw [List.take_length] at h
  rw [h, lv_take hA, Nat.add_mul, Nat.mul_assoc]
/-- What a list of sums is, of which the first i have given their tens on. -/
def Cy (M : Int) (i : Nat) (L : List Int) : Prop := ∀ j d, L[j]? = some d → 0 ≤ d ∧ (j < i → d ≤ 9) ∧ (i < j → d ≤ M) ∧ d ≤ 2 * M
theorem Cy.start {L : List Int} {M : Int} (h : Bdd L M) (h0 : 0 ≤ M) : Cy M 0 L := fun j d hj => by
  obtain ⟨a, b⟩ := h.get hj
  exact ⟨a, fun h => by omega, fun _ => b, by omega⟩
theorem Cy.step {M : Int} {i : Nat} {L : List Int} {x y : Int} (h : Cy M i L) (_hM : 0 ≤ M) (hx : L[i]? = some x) (hy : L[i + 1]? = some y) : Cy M (i + 1) ((L.set (i + 1) (y + x / 10)).set i (x % 10)) := by
  intro j d hj
  obtain ⟨x0, _, _, x3⟩ := h i x hx
  obtain ⟨y0, _, y2, _⟩ := h (i + 1) y hy
  have y2 := y2 (by omega)
  rw [List.getElem?_set] at hj
  split at hj
  · split at hj
    · obtain rfl := Option.some.inj hj
      subst_vars
      exact ⟨by omega, fun _ => by omega, fun h => by omega, by omega⟩
    · cases hj
  · rw [List.getElem?_set] at hj
    split at hj
    · split at hj
      · obtain rfl := Option.some.inj hj
        subst_vars
        exact ⟨by omega, fun h => by omega, fun h => by omega, by omega⟩
      · cases hj
    · obtain ⟨d0, d1, d2, d3⟩ := h j d hj
      exact ⟨d0, fun h => d1 (by omega), fun h => d2 (by omega), d3⟩
theorem cy_lv {M : Int} {i : Nat} {L : List Int} {x y : Int} (h : Cy M i L) (hx : L[i]? = some x) (hy : L[i + 1]? = some y) : lv ((L.set (i + 1) (y + x / 10)).set i (x % 10)) = lv L := by
  obtain ⟨x0, _⟩ := h i x hx
  obtain ⟨y0, _⟩ := h (i + 1) y hy
  have h1 := lv_set (y + x / 10) hy
  have hx' : (L.set (i + 1) (y + x / 10))[i]? = some x := by rw [List.getElem?_set_ne (by omega)]; exact hx
  have h2 := lv_set (x % 10) hx'
  have e : (y + x / 10).toNat = y.toNat + (x / 10).toNat := by omega
  rw [e, Nat.mul_add] at h1
  have e2 : 10 ^ (i + 1) * (x / 10).toNat + 10 ^ i * (x % 10).toNat = 10 ^ i * x.toNat := by
    rw [Nat.pow_succ, Nat.mul_assoc, ← Nat.mul_add]
    congr 1
    omega
  omega
theorem lv_ge {l : List Int} {j : Nat} {x : Int} (h : l[j]? = some x) : 10 ^ j * x.toNat ≤ lv l := by
  have := lv_set 0 h
  have e : (0 : Int).toNat = 0 := rfl
  rw [e, Nat.mul_zero] at this
  omega
theorem cy_end {M : Int} {n : Nat} {L : List Int} (h : Cy M (n - 1) L) (hl : L.length = n) (hv : lv L < 10 ^ n) : Dl L := by
  intro d hd
  obtain ⟨j, hj, rfl⟩ := List.getElem_of_mem hd
  have hj' := List.getElem?_eq_getElem hj
  obtain ⟨d0, d1, _, _⟩ := h j _ hj'
  refine ⟨d0, ?_⟩
  rcases Nat.lt_or_ge j (n - 1) with h1 | h1
  · exact d1 h1
  · have h2 := lv_ge hj'
    have e : j = n - 1 := by omega
    have e3 : n = (n - 1) + 1 := by omega
    rw [e3, Nat.pow_succ] at hv
    subst e
    generalize L[n - 1] = x at *
    have hp := p10 (n - 1)
    generalize 10 ^ (n - 1) = P at *
    have : P * x.toNat < P * 10 := by omega
    have := Nat.lt_of_mul_lt_mul_left this
    omega
end Go.Proofs.YtanfhlkfmmglhaaDoor
/- The reference's small and away. Condition: the tables hold what their initialisers lay. -/
namespace Go.Proofs.YtanfhlkfmmglhaaDoor
open Go.ChangeShapes Go.WideShapes Go.ChangeAt Go.RowKit
attribute [local go_sem ↓] Go.wp_at_zero Go.wp_at_succ

theorem lv_drop {L : List Int} {i : Nat} {d : Int} (h : L[i]? = some d) : lv (L.drop i) = d.toNat + 10 * lv (L.drop (i + 1)) := by
  have hi : i < L.length := by
    rcases Nat.lt_or_ge i L.length with h1 | h1
    · exact h1
    · rw [List.getElem?_eq_none h1] at h; cases h
  rw [List.getElem?_eq_getElem hi] at h
  rw [List.drop_eq_getElem_cons hi, Option.some.inj h]
  rfl
theorem lv_drop_le (L : List Int) (k : Nat) : lv (L.drop k) ≤ lv L := by
  have h : lv L = lv (L.take k) + 10 ^ (L.take k).length * lv (L.drop k) := by
    conv => lhs; rw [← List.take_append_drop k L]
    rw [lv_append]
  have := Nat.le_mul_of_pos_left (lv (L.drop k)) (p10 (L.take k).length)
  omega
set_option maxRecDepth 100000 in
set_option maxHeartbeats 4000000 in
theorem small_at (b off cap : Nat) (L : List Int) (w : World) (hD : Dl L) (hl : L.length ≤ 1000000) (hv : lv L ≤ 1000000000000000000) (hg : ∀ j u, L[j]? = some u → w.cell? ⟨b, off + j, none⟩ = some (.int .i64 u)) :
    Calls Tryd.prog 88 #[.slice (some ⟨b, off, none⟩) L.length cap] w fun e w' => e = .returned (.int .i64 (lv L : Int)) ∧ w = w' := by
  have HG := Lib.hid hg
  have HD := Lib.hid hD
  have HV := Lib.hid hv
  clear hg hD hv
  go_enter Tryd.func88, Tryd.ntmps88
  go_wp2_with fail
  go_loop [3, 4] (fun m v => ∃ (k : Nat) (t : Int) (x : Int), m = .int .i64 x ∧ v = .int .i64 t ∧ Hid (t = (k : Int) - 1) ∧ k ≤ L.length ∧ Hid (x = (lv (L.drop k) : Int))) (fun _ v => (intOf v + 1).toNat)
  case atStart => exact ⟨L.length, _, _, rfl, rfl, Lib.hid rfl, Nat.le_refl _, Lib.hid (by rw [List.drop_length]; rfl)⟩
  case round =>
    obtain ⟨k, t, x, rfl, rfl, htk, hk, hx⟩ := hrel
    by_cases h0 : k = 0
    · subst h0
      obtain rfl : t = -1 := by have := htk.out; omega
      go_wp2_with fail
      go_ret
      exact ⟨by rw [hx.out]; rfl, rfl⟩
    · obtain ⟨i, rfl⟩ : ∃ i, k = i + 1 := ⟨k - 1, by omega⟩
      obtain rfl : t = (i : Int) := by have := htk.out; omega
      obtain ⟨d, hd⟩ := get_lt (show i < L.length by omega)
      have hcell := HG.out i d hd
      have h9 := HD.out.get hd
      have i0 : (0 : Int) ≤ (i : Int) := by omega
      have i1 : (i : Int) < (L.length : Int) := by omega
      have HX := Lib.hid hd
      have x0 : 0 ≤ x := by have := hx.out; omega
      have x1 : 10 * x + d ≤ 1000000000000000000 := by
        have a := lv_drop hd
        have b := lv_drop_le L i
        have c := HV.out
        have e := hx.out
        omega
      clear hd h0 htk
      go_wp2_with fail
      go_round
      case rel =>
        refine ⟨i, _, _, rfl, rfl, Lib.hid rfl, by omega, Lib.hid ?_⟩
        rw [lv_drop HX.out, hx.out]
        omega
      case measure => simp [intOf]
/-- small, of a slice that reads as the digits of a number. -/
theorem refsmall (v : Value) (n : Nat) (w : World) (h : Sl w v (ds n)) (hn : n ≤ 1000000000000000000) : Calls Tryd.prog 88 #[v] w fun e w' => e = .returned (.int .i64 (n : Int)) ∧ w = w' := by
  obtain ⟨b, off, cap, rfl, hc, hm, hb, hg⟩ := h
  have hd : dg n ≤ 1000000 := by
    have h1 := (dg_iff n 19).2 (Nat.lt_of_le_of_lt hn (by decide))
    omega
  have := small_at b off cap (ds n) w (ds_dl n) (by rw [ds_len]; exact hd) (by rw [lv_ds]; exact hn) hg
  rw [lv_ds] at this
  exact this

/-- A number is rounded away from 0, as the reference has it. -/
def awR (how : Int) (neg : Bool) (n : Nat) (rest : Int) (left : Bool) : Bool :=
  if how = 0 then decide (rest = 2) || (decide (rest = 1) && decide (n % 2 = 1)) else if how = 1 then left && !neg else if how = 2 then left && neg else false
theorem beq_dec (a b : Int) : (a == b) = decide (a = b) := by by_cases h : a = b <;> simp [h]
set_option maxRecDepth 100000 in
set_option maxHeartbeats 4000000 in
theorem refaway (how rest : Int) (neg left : Bool) (v : Value) (n : Nat) (w : World) (ht : Tab w) (h : Sl w v (ds n)) (hl : dg n ≤ 1000000) :
    Calls Tryd.prog 76 #[.int .i64 how, .bool neg, v, .int .i64 rest, .bool left] w fun e w' => e = .returned (.bool (awR how neg n rest left)) ∧ Kept w w' := by
  have hlt := ht.lt
  have hlt0 := ht.lt0
  obtain ⟨b, off, cap, rfl, hc, hm, hb, hg⟩ := h
  rw [ds_len] at *
  by_cases h0 : how = 0
  · subst h0
    by_cases hn : n = 0
    · subst hn
      rw [dg_zero] at *
      clear hg
      by_cases r2 : rest = 2
      · subst r2
        have HV : Hid (awR 0 neg 0 2 left = true) := Lib.hid (by unfold awR; simp)
        go_enter Tryd.func76, Tryd.ntmps76
        go_wp2_with fail
        go_returns
        exact ⟨by rw [HV.out]; rfl, Kept.refl ht⟩
      · have HV : Hid (awR 0 neg 0 rest left = false) := Lib.hid (by unfold awR; simp [r2])
        have f2 : (rest == 2) = false := by simpa using r2
        by_cases r1 : rest = 1
        · subst r1
          go_enter Tryd.func76, Tryd.ntmps76
          go_wp2_with fail
          go_returns
          exact ⟨by rw [HV.out]; rfl, Kept.refl ht⟩
        · have f1 : (rest == 1) = false := by simpa using r1
          go_enter Tryd.func76, Tryd.ntmps76
          go_wp2_with fail
          go_returns
          exact ⟨by rw [HV.out]; rfl, Kept.refl ht⟩
    · have hd : (ds n)[0]? = some ((n % 10 : Nat) : Int) := by rw [ds_step hn]; rfl
      have hcell : w.cell? ⟨b, off, none⟩ = some (.int .i64 ((n % 10 : Nat) : Int)) := by simpa using hg 0 _ hd
      have hln : 0 < dg n := by have := dg_ne hn; omega
      obtain ⟨d, hdd⟩ : ∃ d : Int, ((n % 10 : Nat) : Int) = d := ⟨_, rfl⟩
      rw [hdd] at hcell
      have d0 : 0 ≤ d := by omega
      have d9 : d ≤ 9 := by omega
      by_cases ho : n % 2 = 1
      all_goals
        first
          | (have fo : (d % 2 == 1) = true := by simp; omega)
          | (have fo : (d % 2 == 1) = false := by simp; omega)
        have HO := Lib.hid ho
        clear hg hd hdd hn ho
        by_cases r2 : rest = 2
        · subst r2
          have HV : Hid (awR 0 neg n 2 left = true) := Lib.hid (by unfold awR; simp)
          go_enter Tryd.func76, Tryd.ntmps76
          go_wp2_with fail
          go_returns
          exact ⟨by rw [HV.out]; rfl, Kept.refl ht⟩
        · have f2 : (rest == 2) = false := by simpa using r2
          by_cases r1 : rest = 1
          · subst r1
            have HV := Lib.hid (show awR 0 neg n 1 left = decide (n % 2 = 1) by unfold awR; simp)
            go_enter Tryd.func76, Tryd.ntmps76
            go_wp2_with fail
            go_returns
            exact ⟨by rw [HV.out]; simp [HO.out], Kept.refl ht⟩
          · have f1 : (rest == 1) = false := by simpa using r1
            have HV : Hid (awR 0 neg n rest left = false) := Lib.hid (by unfold awR; simp [r2, r1])
            go_enter Tryd.func76, Tryd.ntmps76
            go_wp2_with fail
            go_returns
            exact ⟨by rw [HV.out]; rfl, Kept.refl ht⟩
  · by_cases h1 : how = 1
    · subst h1
      have HR : Hid (awR 1 neg n rest left = (left && !neg)) := Lib.hid rfl
      clear hg
      cases left <;> cases neg
      all_goals
        go_enter Tryd.func76, Tryd.ntmps76
        go_wp2_with fail
        go_returns
        exact ⟨by rw [HR.out]; rfl, Kept.refl ht⟩
    · by_cases h2 : how = 2
      · subst h2
        have HR : Hid (awR 2 neg n rest left = (left && neg)) := Lib.hid rfl
        clear hg
        cases left <;> cases neg
        all_goals
          go_enter Tryd.func76, Tryd.ntmps76
          go_wp2_with fail
          go_returns
          exact ⟨by rw [HR.out]; rfl, Kept.refl ht⟩
      · have HR : Hid (awR how neg n rest left = false) := Lib.hid (by unfold awR; rw [if_neg h0, if_neg h1, if_neg h2])
        have e0 : (how == 0) = false := by simpa using h0
        have e1 : (how == 1) = false := by simpa using h1
        have e2 : (how == 2) = false := by simpa using h2
        clear hg
        go_enter Tryd.func76, Tryd.ntmps76
        go_wp2_with fail
        go_returns
        exact ⟨by rw [HR.out]; rfl, Kept.refl ht⟩
end Go.Proofs.YtanfhlkfmmglhaaDoor
/- Quotients and roots digit by digit: plain mathematics. No condition. -/
namespace Go.Proofs.YtanfhlkfmmglhaaDoor

theorem lv_head (A : List Int) (k : Nat) {x : Int} (h : A[k]? = some x) : lv (A.drop k) = x.toNat + 10 * lv (A.drop (k + 1)) := lv_drop h
/-- One digit of a quotient more. -/
theorem dv_step {A q : List Int} {k b R S : Nat} {x d : Int} (hx : A[k]? = some x) (_d0 : 0 ≤ d) (hq : lv q * b + R = lv (A.drop (k + 1))) (hd : d.toNat * b + S = x.toNat + 10 * R) : lv (d :: q) * b + S = lv (A.drop k) := by
  rw [lv_head A k hx, ← hq]
  show (d.toNat + 10 * lv q) * b + S = _
  rw [Nat.add_mul, Nat.mul_assoc]
  omega
theorem dv_nine {b R d S : Nat} {x : Nat} (hx : x ≤ 9) (hR : R < b) (h : d * b + S = x + 10 * R) : d ≤ 9 := by
  rcases Nat.lt_or_ge d 10 with h1 | h1
  · omega
  · have := Nat.mul_le_mul_right b h1
    omega
theorem dv_sub {b d S T : Nat} (h : d * b + S = T) (hb : b ≤ S) : (d + 1) * b + (S - b) = T := by
  rw [Nat.add_mul, Nat.one_mul]
  omega
theorem dv_end {a b q R : Nat} (h : q * b + R = a) (hR : R < b) : q = a / b ∧ R = a % b := by
  have hb : 0 < b := by omega
  subst h
  rw [Nat.mul_comm, Nat.mul_add_div hb, Nat.mul_add_mod, Nat.div_eq_of_lt hR, Nat.mod_eq_of_lt hR]
  exact ⟨rfl, rfl⟩
/-- What next gives: (20 x + d) d. -/
def nx (x d : Nat) : Nat := (x * 20 + d) * d
theorem nx_le {x d e : Nat} (h : d ≤ e) : nx x d ≤ nx x e := Nat.mul_le_mul (by omega) h
theorem rt_sq {X R T u d : Nat} (h : X * X + R = T) (hd : nx X d ≤ u + 100 * R) : (10 * X + d) * (10 * X + d) + (u + 100 * R - nx X d) = u + 100 * T := by
  have e : (10 * X + d) * (10 * X + d) = 100 * (X * X) + nx X d := by
    unfold nx
    rw [Nat.add_mul, Nat.mul_add, Nat.add_mul, Nat.mul_add, show 10 * X * (10 * X) = 100 * (X * X) by rw [Nat.mul_mul_mul_comm], show X * 20 * d = 20 * (X * d) by rw [Nat.mul_comm X 20, Nat.mul_assoc], show 10 * X * d = 10 * (X * d) by rw [Nat.mul_assoc], show d * (10 * X) = 10 * (X * d) by rw [Nat.mul_left_comm, Nat.mul_comm d X]]
    omega
  rw [e]
  omega
theorem rt_hi {X R u d : Nat} (hR : R ≤ 2 * X) (hu : u ≤ 99) (hd9 : d ≤ 9) (hm : d = 9 ∨ u + 100 * R < nx X (d + 1)) (hd : nx X d ≤ u + 100 * R) : u + 100 * R - nx X d ≤ 2 * (10 * X + d) := by
  have e : nx X (d + 1) = nx X d + 20 * X + 2 * d + 1 := by
    unfold nx
    rw [show X * 20 + (d + 1) = (X * 20 + d) + 1 by omega, Nat.mul_add, Nat.add_mul, Nat.mul_one]
    omega
  have h9 : u + 100 * R < nx X (d + 1) := by
    rcases hm with rfl | hm
    · unfold nx; omega
    · exact hm
  omega
theorem rt_end {a X R : Nat} (h : X * X + R = a) (hR : R ≤ 2 * X) : X = isq a ∧ R = a - isq a * isq a := by
  have : isq a = X := isq_of (by omega) (by rw [Nat.mul_add, Nat.add_mul]; omega)
  rw [this]
  exact ⟨rfl, by omega⟩
theorem lv_two (A : List Int) (k : Nat) {x y : Int} (h : A[k]? = some x) (h' : A[k + 1]? = some y) : lv (A.drop k) = x.toNat + 10 * y.toNat + 100 * lv (A.drop (k + 2)) := by
  rw [lv_drop h, lv_drop (i := k + 1) h']
  show x.toNat + 10 * (y.toNat + 10 * lv (A.drop (k + 1 + 1))) = x.toNat + 10 * y.toNat + 100 * lv (A.drop (k + 2))
  rw [show k + 1 + 1 = k + 2 from rfl]
  omega
end Go.Proofs.YtanfhlkfmmglhaaDoor
/- The reference's form. Condition: the tables hold what their initialisers lay. -/
namespace Go.Proofs.YtanfhlkfmmglhaaDoor
open Go.ChangeShapes Go.WideShapes Go.ChangeAt Go.RowKit
attribute [local go_sem ↓] Go.wp_at_zero Go.wp_at_succ

set_option maxRecDepth 100000 in
set_option maxHeartbeats 4000000 in
theorem form_nil (neg : Bool) (e : Int) (v : Value) (w : World) (ht : Tab w) (h : Sl w v (ds 0)) :
    Calls Tryd.prog 78 #[.bool neg, v, .int .i64 e] w fun x w' => x = .returned (.agg #[.int .i64 0, .int .i64 0]) ∧ Kept w w' := by
  have hlt := ht.lt
  have hlt0 := ht.lt0
  obtain ⟨b, off, cap, rfl, hc, hm, hb, hg⟩ := h
  rw [ds_len, dg_zero] at *
  clear hg hc
  go_enter Tryd.func78, Tryd.ntmps78
  go_wp2_with fail
  go_loopw [1, 2] (fun v i wr => v = .slice (some ⟨b, off, none⟩) 0 cap ∧ wr = w.alloc (.cells #[.int .i64 0, .int .i64 0] 25)) (fun _ _ _ => 0)
  case atStart => exact ⟨rfl, rfl⟩
  case round =>
    obtain ⟨rfl, rfl⟩ := hrel
    go_wp2_with fail
    have hF := Own.new w 25 [.int .i64 0, .int .i64 0]
    refine bodyPost_ret (ret_own rfl hF rfl Tryd.underlying25 rfl (by kernel_rfl)) rfl ?_
    exact ⟨rfl, (by repeat' (first | (with_reducible assumption) | (with_reducible exact Kept.refl ht) | (with_reducible refine Kept.alloc ?_ _) | (with_reducible refine Kept.drew ?_) | (with_reducible refine Kept.drewN ?_ _) | (with_reducible refine Kept.setCell ?_ ?_ _ ?_ ?_) | (with_reducible refine Kept.trans ?_ (by assumption)) | omega | (simp; done) | (simp; omega)))⟩
/-- What holds at each round's head of form. -/
def FoRel (n : Nat) (e : Int) (w : World) (v i : Value) (wr : World) : Prop :=
  ∃ (m : Nat) (z : Value) (E : Int), z = v ∧ i = .int .i64 E ∧ wr = w.alloc (.cells #[.int .i64 0, .int .i64 0] 25) ∧ Hid (Sl w z (ds m)) ∧ Hid (m ≠ 0) ∧ Hid (m ≤ n) ∧ Hid (od m = od n) ∧ Hid (E + (tz m : Int) = e + (tz n : Int)) ∧ -200000 ≤ E ∧ E + (dg m : Int) ≤ 200000
set_option maxRecDepth 100000 in
set_option maxHeartbeats 8000000 in
theorem form_any (neg : Bool) (n : Nat) (e : Int) (v : Value) (w : World) (ht : Tab w) (h : Sl w v (ds n)) (h0 : n ≠ 0) (hn : n ≤ 1000000000000000000) (he : -100000 ≤ e) (he' : e ≤ 100000) :
    Calls Tryd.prog 78 #[.bool neg, v, .int .i64 e] w fun x w' => x = .returned (.agg #[.int .i64 (sg neg (od n)), .int .i64 (e + (tz n : Int))]) ∧ Kept w w' := by
  have hlt := ht.lt
  have hlt0 := ht.lt0
  have hd19 : dg n ≤ 19 := (dg_iff n 19).2 (Nat.lt_of_le_of_lt hn (by decide))
  have HN := Lib.hid hn
  have H0 := Lib.hid h0
  have HS := Lib.hid h
  clear hn h0 h
  go_enter Tryd.func78, Tryd.ntmps78
  go_wp2_with fail
  go_loopw [1, 2] (FoRel n e w) (fun v _ _ => match v with | .slice _ n _ => n | _ => 0)
  case atStart => exact ⟨n, _, e, rfl, rfl, rfl, HS, H0, Lib.hid (Nat.le_refl _), Lib.hid rfl, Lib.hid rfl, by omega, by omega⟩
  case round =>
    obtain ⟨m, z, E, rfl, rfl, rfl, hs, hm0, hmn, ho, htz, e1, e2⟩ := hrel
    obtain ⟨b, off, cap, rfl, hc, hm, hb, hg⟩ := hs.out
    have hst := ds_step hm0.out
    have hcell : w.cell? ⟨b, off, none⟩ = some (.int .i64 ((m % 10 : Nat) : Int)) := by
      have := hg 0 ((m % 10 : Nat) : Int) (by rw [hst]; rfl)
      simpa using this
    have hln := ds_len m
    have hmd := dg_step hm0.out
    have hbw : b < w.heap.size := hb
    by_cases hz : m % 10 = 0
    · have hq0 : m / 10 ≠ 0 := by have := hm0.out; omega
      have hq := dg_ne hq0
      rw [hz] at hcell
      have HG := Lib.hid hg
      have HST := Lib.hid hst
      have HZ := Lib.hid hz
      have HQ := Lib.hid hq0
      have hl2 : 2 ≤ (ds m).length := by omega
      have hc1 : 1 < cap := by omega
      have hlen : (ds (m / 10)).length = (ds m).length - 1 := by rw [ds_len, ds_len]; omega
      have HLN := Lib.hid hlen
      have hcx : cap ≤ maxLen := hm
      unfold maxLen at hm
      have HMD := Lib.hid hmd
      have HL := Lib.hid hln
      clear hg hst hz hq0 hlen hmd hln
      generalize (ds m).length = len at *
      go_wp2_with fail
      go_roundw
      case rel =>
        refine ⟨m / 10, _, E + 1, rfl, rfl, rfl, Lib.hid ⟨b, off + 1, cap - 1, by rw [HLN.out], by rw [HLN.out]; omega, by unfold maxLen; omega, hb, fun j u hj => ?_⟩, HQ, Lib.hid (by have := hmn.out; omega), Lib.hid ?_, Lib.hid ?_, by omega, by have := HMD.out; omega⟩
        · have := HG.out (j + 1) u (by rw [HST.out]; exact hj)
          rw [show off + 1 + j = off + (j + 1) by omega]
          exact this
        · rw [← ho.out]; exact (od_step hm0.out HZ.out).symm
        · have := tz_step hm0.out HZ.out
          have := htz.out
          omega
      case measure => simp; omega
    · have hx : (((m % 10 : Nat) : Int) == 0) = false := by simp; omega
      have hcm : m ≤ 1000000000000000000 := by have := hmn.out; have := HN.out; omega
      have HF : Hid (od m = m ∧ tz m = 0) := Lib.hid ⟨od_none hz, tz_none hz⟩
      have HSM := Lib.hid (fun w' (hw : Below w.heap.size w w') => refsmall (.slice (some ⟨b, off, none⟩) (ds m).length cap) m w' (hs.out.below hw) hcm)
      have hl1 : 0 < (ds m).length := by omega
      generalize hdd : ((m % 10 : Nat) : Int) = d at hcell hx
      clear hg hst hln hmd hdd hz
      generalize (ds m).length = len at *
      have HV : Hid ((m : Int) = (od n : Int) ∧ E = e + (tz n : Int)) := Lib.hid ⟨by have := HF.out.1; have := ho.out; omega, by have := HF.out.2; have := htz.out; omega⟩
      cases neg
      · go_wp2_with (first | (go_at_call 88; (with_reducible refine (HSM.out _ ((Below.refl _ _).alloc (Nat.le_refl _) _)).mono ?_); rintro e w' ⟨rfl, rfl⟩))
        have hF := Own.new w 25 [.int .i64 (m : Int), .int .i64 E]
        refine bodyPost_ret (ret_own rfl hF rfl Tryd.underlying25 rfl (by kernel_rfl)) rfl ?_
        exact ⟨by unfold sg; rw [if_neg (by simp), ← HV.out.1, ← HV.out.2], (by repeat' (first | (with_reducible assumption) | (with_reducible exact Kept.refl ht) | (with_reducible refine Kept.alloc ?_ _) | (with_reducible refine Kept.drew ?_) | (with_reducible refine Kept.drewN ?_ _) | (with_reducible refine Kept.setCell ?_ ?_ _ ?_ ?_) | (with_reducible refine Kept.trans ?_ (by assumption)) | omega | (simp; done) | (simp; omega)))⟩
      · go_wp2_with (first | (go_at_call 88; (with_reducible refine (HSM.out _ ((Below.refl _ _).alloc (Nat.le_refl _) _)).mono ?_); rintro e w' ⟨rfl, rfl⟩))
        have hF := Own.new w 25 [.int .i64 (-(m : Int)), .int .i64 E]
        refine bodyPost_ret (ret_own rfl hF rfl Tryd.underlying25 rfl (by kernel_rfl)) rfl ?_
        exact ⟨by unfold sg; rw [if_pos rfl, ← HV.out.1, ← HV.out.2], (by repeat' (first | (with_reducible assumption) | (with_reducible exact Kept.refl ht) | (with_reducible refine Kept.alloc ?_ _) | (with_reducible refine Kept.drew ?_) | (with_reducible refine Kept.drewN ?_ _) | (with_reducible refine Kept.setCell ?_ ?_ _ ?_ ?_) | (with_reducible refine Kept.trans ?_ (by assumption)) | omega | (simp; done) | (simp; omega)))⟩
end Go.Proofs.YtanfhlkfmmglhaaDoor
/- The reference's Digits, Valid, right and Exactly. Condition: the tables hold what their initialisers lay. -/
namespace Go.Proofs.YtanfhlkfmmglhaaDoor
open Go.ChangeShapes Go.WideShapes Go.ChangeAt Go.RowKit
attribute [local go_sem ↓] Go.wp_at_zero Go.wp_at_succ

theorem refDigits (s : Int) (w : World) : Calls Tryd.prog 73 #[.int .i64 s] w fun e w' => e = .returned (.tuple #[.int .i64 (dz s), .int .i64 (sx s)]) ∧ w = w' := by
  rcases sz_or s with ⟨h, h'⟩ | ⟨h, h'⟩
  · have HD : Hid (dz s = (pr s : Int) ∧ sx s = 0) := Lib.hid (by unfold dz sx; rw [h]; simp)
    rcases h' with rfl | rfl | rfl
    all_goals
      clear h
      go_enter Tryd.func73, Tryd.ntmps73
      go_wp2_with fail
      go_returns
      exact ⟨by rw [HD.out.1, HD.out.2]; rfl, rfl⟩
  · have HD : Hid (dz s = 0 ∧ sx s = 1) := Lib.hid (by unfold dz sx; rw [h]; simp)
    have e1 : (s == -1) = false := by simp; omega
    have e2 : (s == 0) = false := by simp; omega
    have e3 : (s == 1) = false := by simp; omega
    clear h h'
    go_enter Tryd.func73, Tryd.ntmps73
    go_wp2_with fail
    go_returns
    exact ⟨by rw [HD.out.1, HD.out.2]; rfl, rfl⟩
set_option maxRecDepth 100000 in
set_option maxHeartbeats 4000000 in
theorem refValid (s m e : Int) (w : World) (ht : Tab w) (lo : -9223372036854775808 ≤ m) (hi : m ≤ 9223372036854775807) :
    Calls Tryd.prog 74 #[.int .i64 s, .agg #[.int .i64 m, .int .i64 e]] w fun x w' => x = .returned (.bool (vld s m e)) ∧ Kept w w' := by
  have hlt := ht.lt
  have hlt0 := ht.lt0
  have hDg := fun w => refDigits s w
  unfold dz sx at hDg
  cases hs : isSz s
  · rw [hs] at hDg
    simp only [Bool.false_eq_true, if_false] at hDg
    have HD := Lib.hid hDg
    have HV : Hid (vld s m e = false) := Lib.hid (by unfold vld; rw [hs]; rfl)
    clear hDg hs lo hi
    go_enter Tryd.func74, Tryd.ntmps74
    go_wp2_with (first | (go_at_call 73; (with_reducible refine (HD.out _).mono ?_); rintro e w' ⟨rfl, rfl⟩))
    go_returns
    exact ⟨by rw [HV.out]; rfl, (by repeat' (first | (with_reducible assumption) | (with_reducible exact Kept.refl ht) | (with_reducible refine Kept.alloc ?_ _) | (with_reducible refine Kept.drew ?_) | (with_reducible refine Kept.drewN ?_ _) | (with_reducible refine Kept.setCell ?_ ?_ _ ?_ ?_) | (with_reducible refine Kept.trans ?_ (by assumption)) | omega | (simp; done) | (simp; omega)))⟩
  · rw [hs] at hDg
    simp only [if_true] at hDg
    have HD := Lib.hid hDg
    by_cases hm : m = 0
    · subst hm
      have HV : Hid (vld s 0 e = decide (e = 0)) := Lib.hid (by unfold vld; rw [hs]; simp)
      by_cases he : e = 0
      · subst he
        clear hDg hs lo hi
        go_enter Tryd.func74, Tryd.ntmps74
        go_wp2_with (first | (go_at_call 73; (with_reducible refine (HD.out _).mono ?_); rintro e w' ⟨rfl, rfl⟩))
        go_returns
        exact ⟨by rw [HV.out]; rfl, (by repeat' (first | (with_reducible assumption) | (with_reducible exact Kept.refl ht) | (with_reducible refine Kept.alloc ?_ _) | (with_reducible refine Kept.drew ?_) | (with_reducible refine Kept.drewN ?_ _) | (with_reducible refine Kept.setCell ?_ ?_ _ ?_ ?_) | (with_reducible refine Kept.trans ?_ (by assumption)) | omega | (simp; done) | (simp; omega)))⟩
      · have heb : (e == 0) = false := by simpa using he
        have HE := Lib.hid he
        clear hDg hs lo hi he
        go_enter Tryd.func74, Tryd.ntmps74
        go_wp2_with (first | (go_at_call 73; (with_reducible refine (HD.out _).mono ?_); rintro e w' ⟨rfl, rfl⟩))
        go_returns
        exact ⟨by rw [HV.out, decide_eq_false HE.out]; rfl, (by repeat' (first | (with_reducible assumption) | (with_reducible exact Kept.refl ht) | (with_reducible refine Kept.alloc ?_ _) | (with_reducible refine Kept.drew ?_) | (with_reducible refine Kept.drewN ?_ _) | (with_reducible refine Kept.setCell ?_ ?_ _ ?_ ?_) | (with_reducible refine Kept.trans ?_ (by assumption)) | omega | (simp; done) | (simp; omega)))⟩
    · have hn : mag m ≠ 0 := by unfold mag; omega
      have hmb : (m == 0) = false := by simpa using hm
      have HO := Lib.hid (fun w ht => Of_any m w ht lo hi)
      have hdg : dg (mag m) ≤ 20 := (dg_iff _ 20).2 (by have : (10 : Nat) ^ 20 = 100000000000000000000 := by decide
                                                        rw [this]; unfold mag; omega)
      have hd1 := dg_ne hn
      have hp := pr_pos s
      obtain ⟨P, hP⟩ : ∃ P : Int, (pr s : Int) = P := ⟨_, rfl⟩
      obtain ⟨l, hl⟩ : ∃ l, dg (mag m) = l := ⟨_, rfl⟩
      obtain ⟨d, hd⟩ : ∃ d : Int, ((mag m % 10 : Nat) : Int) = d := ⟨_, rfl⟩
      have hV : vld s m e = (decide (d ≠ 0) && decide ((l : Int) ≤ P) && decide (-400 ≤ e) && decide (e ≤ P + 400 - (l : Int))) := by
        unfold vld
        rw [hs, if_neg hm, Bool.true_and, Bool.eq_iff_iff]
        simp only [Bool.and_eq_true, decide_eq_true_eq]
        unfold mag at *
        omega
      rw [hP] at HD
      have p1 : 7 ≤ P := by omega
      have p2 : P ≤ 18 := by omega
      have l1 : l ≤ 20 := by omega
      have l0 : 0 < l := by omega
      have HV := Lib.hid hV
      have HDS : Hid ((ds (mag m)).length = l ∧ (ds (mag m))[0]? = some (.ofNat (mag m % 10))) := Lib.hid ⟨by rw [ds_len, hl], by rw [ds_step hn]; rfl⟩
      have HDD := Lib.hid hd
      clear hDg hs lo hi hm hn hdg hd1 hp hP hl hd hV
      go_enter Tryd.func74, Tryd.ntmps74
      go_upto_region 7 with (first | (go_at_call 73; (with_reducible refine (HD.out _).mono ?_); rintro e w' ⟨rfl, rfl⟩) | (go_at_call 44; (with_reducible refine (HO.out _ (by repeat' (first | (with_reducible assumption) | (with_reducible refine Tab.alloc ?_ _) | (with_reducible refine Tab.drew ?_) | (with_reducible refine Tab.drewN ?_ _) | (with_reducible refine Tab.setCell ?_ ?_ ?_ _) | omega | (simp; done) | (simp; omega)))).mono ?_); rintro x w1 ⟨v, rfl, hs1, hk1, hnw1⟩))
      have hI := (Inv.one ht 25 [.int .i64 m, .int .i64 e]).call hk1
      (have x0 : w1.cell? ⟨w.heap.size, 0, none⟩ = some (.int .i64 m) := (hI.own 0 _ rfl).cell 0; have x1 : w1.cell? ⟨w.heap.size, 1, none⟩ = some (.int .i64 e) := (hI.own 0 _ rfl).cell 1; have xf := fun i => (hI.own 0 _ rfl).frozen i; have xl : w.heap.size < w1.heap.size := (hI.own 0 _ rfl).lt)
      have hK := hI.kept
      obtain ⟨b, off, cap, rfl, hc, hm, hb, hg⟩ := hs1
      have hcell : w1.cell? ⟨b, off, none⟩ = some (.int .i64 d) := by
        have := hg 0 _ HDS.out.2
        rw [← HDD.out]
        simpa using this
      rw [HDS.out.1] at *
      clear hg hI hk1
      by_cases t1 : d = 0
      · subst t1
        go_wp2_with fail
        go_returns
        exact ⟨by rw [HV.out]; simp [], hK⟩
      · have f1 : (d != 0) = true := by simpa using t1
        have T1 := Lib.hid t1
        clear t1
        by_cases t2 : (l : Int) ≤ P
        · by_cases t3 : -400 ≤ e
          · by_cases t4 : e ≤ P + 400 - (l : Int)
            · have F := Lib.hid (And.intro T1.out (And.intro t2 (And.intro t3 t4)))
              go_wp2_with fail
              go_returns
              exact ⟨by rw [HV.out]; simp [F.out.1, F.out.2.1, F.out.2.2.1, F.out.2.2.2], hK⟩
            · have F := Lib.hid t4
              go_wp2_with fail
              go_returns
              exact ⟨by rw [HV.out]; simp; have := F.out; omega, hK⟩
          · have F := Lib.hid t3
            go_wp2_with fail
            go_returns
            exact ⟨by rw [HV.out]; simp; have := F.out; omega, hK⟩
        · have F := Lib.hid t2
          go_wp2_with fail
          go_returns
          exact ⟨by rw [HV.out]; simp; have := F.out; omega, hK⟩
/-- right: what is wrong with a size, a direction and two reals. -/
theorem refright (s how a e b f : Int) (w : World) (ht : Tab w) (la : -9223372036854775808 ≤ a) (ha : a ≤ 9223372036854775807) (lb : -9223372036854775808 ≤ b) (hb : b ≤ 9223372036854775807) :
    Calls Tryd.prog 37 #[.int .i64 s, .int .i64 how, .agg #[.int .i64 a, .int .i64 e], .agg #[.int .i64 b, .int .i64 f]] w fun x w' => x = .returned (.int .i64 (ckR s how [(a, e), (b, f)])) ∧ Kept w w' := by
  have hlt := ht.lt
  have hlt0 := ht.lt0
  have hDg := fun w => refDigits s w
  unfold dz sx at hDg
  cases hs : isSz s
  · rw [hs] at hDg
    simp only [Bool.false_eq_true, if_false] at hDg
    have HD := Lib.hid hDg
    have HV : Hid (ckR s how [(a, e), (b, f)] = 1) := Lib.hid (by unfold ckR; rw [hs]; rfl)
    clear hDg hs la ha lb hb
    go_enter Tryd.func37, Tryd.ntmps37
    go_wp2_with (first | (go_at_call 73; (with_reducible refine (HD.out _).mono ?_); rintro e w' ⟨rfl, rfl⟩))
    go_returns
    exact ⟨by rw [HV.out]; rfl, (by repeat' (first | (with_reducible assumption) | (with_reducible exact Kept.refl ht) | (with_reducible refine Kept.alloc ?_ _) | (with_reducible refine Kept.drew ?_) | (with_reducible refine Kept.drewN ?_ _) | (with_reducible refine Kept.setCell ?_ ?_ _ ?_ ?_) | (with_reducible refine Kept.trans ?_ (by assumption)) | omega | (simp; done) | (simp; omega)))⟩
  · rw [hs] at hDg
    simp only [if_true] at hDg
    have HD := Lib.hid hDg
    clear hDg
    by_cases h1 : how < 0
    · have HV : Hid (ckR s how [(a, e), (b, f)] = 1) := Lib.hid (by unfold ckR; rw [hs, show isDir how = false from decide_eq_false (by omega)]; rfl)
      clear hs la ha lb hb
      go_enter Tryd.func37, Tryd.ntmps37
      go_wp2_with (first | (go_at_call 73; (with_reducible refine (HD.out _).mono ?_); rintro e w' ⟨rfl, rfl⟩))
      go_returns
      exact ⟨by rw [HV.out]; rfl, (by repeat' (first | (with_reducible assumption) | (with_reducible exact Kept.refl ht) | (with_reducible refine Kept.alloc ?_ _) | (with_reducible refine Kept.drew ?_) | (with_reducible refine Kept.drewN ?_ _) | (with_reducible refine Kept.setCell ?_ ?_ _ ?_ ?_) | (with_reducible refine Kept.trans ?_ (by assumption)) | omega | (simp; done) | (simp; omega)))⟩
    · by_cases h2 : 3 < how
      · have HV : Hid (ckR s how [(a, e), (b, f)] = 1) := Lib.hid (by unfold ckR; rw [hs, show isDir how = false from decide_eq_false (by omega)]; rfl)
        clear hs la ha lb hb
        go_enter Tryd.func37, Tryd.ntmps37
        go_wp2_with (first | (go_at_call 73; (with_reducible refine (HD.out _).mono ?_); rintro e w' ⟨rfl, rfl⟩))
        go_returns
        exact ⟨by rw [HV.out]; rfl, (by repeat' (first | (with_reducible assumption) | (with_reducible exact Kept.refl ht) | (with_reducible refine Kept.alloc ?_ _) | (with_reducible refine Kept.drew ?_) | (with_reducible refine Kept.drewN ?_ _) | (with_reducible refine Kept.setCell ?_ ?_ _ ?_ ?_) | (with_reducible refine Kept.trans ?_ (by assumption)) | omega | (simp; done) | (simp; omega)))⟩
      · have hck : ckR s how [(a, e), (b, f)] = if (vld s a e && vld s b f) = true then 0 else 11 := by
          unfold ckR ckO
          rw [hs, show isDir how = true from decide_eq_true (by omega)]
          simp
        have v1 := fun w ht => refValid s a e w ht la ha
        have v2 := fun w ht => refValid s b f w ht lb hb
        rw [hck]
        clear hs hck la ha lb hb
        cases hv1 : vld s a e
        · rw [hv1] at v1
          have V1 := Lib.hid v1
          clear v1 v2 hv1
          go_enter Tryd.func37, Tryd.ntmps37
          go_wp2_with (first | (go_at_call 73; (with_reducible refine (HD.out _).mono ?_); rintro e w' ⟨rfl, rfl⟩) | (go_at_call 74; (with_reducible refine (V1.out _ (by repeat' (first | (with_reducible assumption) | (with_reducible refine Tab.alloc ?_ _) | (with_reducible refine Tab.drew ?_) | (with_reducible refine Tab.drewN ?_ _) | (with_reducible refine Tab.setCell ?_ ?_ ?_ _) | omega | (simp; done) | (simp; omega)))).mono ?_); rintro e w1 ⟨rfl, hk1⟩; obtain ⟨hc1, hf1⟩ := bcell hk1.2; have ht1 := hk1.1; have hz1 := hk1.2.size; (try simp only [World.size_alloc] at hz1); (try simp only [sz_drew] at hz1); (try simp only [sz_drewN] at hz1); (try simp only [World.size_alloc] at hz1); (try simp only [sz_drew] at hc1 hf1); (try simp only [sz_drewN] at hc1 hf1); (try have hw1 : w.heap.size < w1.heap.size := by omega); (try have hv1 : w.heap.size + 1 < w1.heap.size := by omega); (try have hu1 : w.heap.size + 2 < w1.heap.size := by omega)))
          go_returns
          exact ⟨by simp, (by repeat' (first | (with_reducible assumption) | (with_reducible exact Kept.refl ht) | (with_reducible refine Kept.alloc ?_ _) | (with_reducible refine Kept.drew ?_) | (with_reducible refine Kept.drewN ?_ _) | (with_reducible refine Kept.setCell ?_ ?_ _ ?_ ?_) | (with_reducible refine Kept.trans ?_ (by assumption)) | omega | (simp; done) | (simp; omega)))⟩
        · rw [hv1] at v1
          have V1 := Lib.hid v1
          cases hv2 : vld s b f
          all_goals
            rw [hv2] at v2
            have V2 := Lib.hid v2
            clear v1 v2 hv1 hv2
            go_enter Tryd.func37, Tryd.ntmps37
            go_wp2_with (first | (go_at_call 73; (with_reducible refine (HD.out _).mono ?_); rintro e w' ⟨rfl, rfl⟩) | (go_at_call 74; (with_reducible refine (V1.out _ (by repeat' (first | (with_reducible assumption) | (with_reducible refine Tab.alloc ?_ _) | (with_reducible refine Tab.drew ?_) | (with_reducible refine Tab.drewN ?_ _) | (with_reducible refine Tab.setCell ?_ ?_ ?_ _) | omega | (simp; done) | (simp; omega)))).mono ?_); rintro e w1 ⟨rfl, hk1⟩; obtain ⟨hc1, hf1⟩ := bcell hk1.2; have ht1 := hk1.1; have hz1 := hk1.2.size; (try simp only [World.size_alloc] at hz1); (try simp only [sz_drew] at hz1); (try simp only [sz_drewN] at hz1); (try simp only [World.size_alloc] at hz1); (try simp only [sz_drew] at hc1 hf1); (try simp only [sz_drewN] at hc1 hf1); (try have hw1 : w.heap.size < w1.heap.size := by omega); (try have hv1 : w.heap.size + 1 < w1.heap.size := by omega); (try have hu1 : w.heap.size + 2 < w1.heap.size := by omega)) | (go_at_call 74; (with_reducible refine (V2.out _ (by repeat' (first | (with_reducible assumption) | (with_reducible refine Tab.alloc ?_ _) | (with_reducible refine Tab.drew ?_) | (with_reducible refine Tab.drewN ?_ _) | (with_reducible refine Tab.setCell ?_ ?_ ?_ _) | omega | (simp; done) | (simp; omega)))).mono ?_); rintro e w2 ⟨rfl, hk2⟩; obtain ⟨hc2, hf2⟩ := bcell hk2.2; have ht2 := hk2.1; have hz2 := hk2.2.size; (try simp only [World.size_alloc] at hz2); (try simp only [sz_drew] at hz2); (try simp only [sz_drewN] at hz2); (try simp only [World.size_alloc] at hz2); (try simp only [sz_drew] at hc2 hf2); (try simp only [sz_drewN] at hc2 hf2); (try have hw2 : w.heap.size < w2.heap.size := by omega); (try have hv2 : w.heap.size + 1 < w2.heap.size := by omega); (try have hu2 : w.heap.size + 2 < w2.heap.size := by omega)))
            go_returns
            exact ⟨by simp, (by repeat' (first | (with_reducible assumption) | (with_reducible exact Kept.refl ht) | (with_reducible refine Kept.alloc ?_ _) | (with_reducible refine Kept.drew ?_) | (with_reducible refine Kept.drewN ?_ _) | (with_reducible refine Kept.setCell ?_ ?_ _ ?_ ?_) | (with_reducible refine Kept.trans ?_ (by assumption)) | omega | (simp; done) | (simp; omega)))⟩
end Go.Proofs.YtanfhlkfmmglhaaDoor
/- The reference's shift. Condition: the tables hold what their initialisers lay. -/
namespace Go.Proofs.YtanfhlkfmmglhaaDoor
open Go.ChangeShapes Go.WideShapes Go.ChangeAt Go.RowKit
attribute [local go_sem ↓] Go.wp_at_zero Go.wp_at_succ

/-- append of a slice to a slice of the call's own. -/
theorem appN {ops : Array Oper} {rest : List Oper} {o : Oper} {a : Act} {Q : Exit → Act → World → Prop} (hgd : o.guard = none) (s x : Operand)
    (ho : o.op = .call { callee := .builtin .append, args := #[s, x], argTypes := #[51, 51] })
    (W : World) (base : Nat) (v : Value) (l M : List Int) (b off c : Nat) (hs : a.eval s = v) (hx : a.eval x = .slice (some ⟨b, off, none⟩) M.length c) (hM : ∀ j u, M[j]? = some u → W.cell? ⟨b, off + j, none⟩ = some (.int .i64 u))
    (hown : Ow W base v l) (hl : l.length + M.length ≤ 1000000) (hbase : base ≤ W.heap.size)
    (h : ∀ v' w', Ow w' base v' (l ++ M) → Below base W w' → wpList Tryd.prog ops Q rest (a.put o.dst v') w') : wpList Tryd.prog ops Q (o :: rest) a W := by
  obtain ⟨i0, hi, hz0, hz1, hz2⟩ := info_parts info_int
  obtain ⟨g, cap, hv, hg, _⟩ := hown.form
  refine wpList_append_own _ hgd s x 51 ho base 3 i0 (.int .i64 0) 1 8 Tryd.underlying51 hi hz0 hz1 hz2 rfl (by decide) v l.length (l.map (Value.int .i64)) hs hown.1 ⟨b, off, none⟩ M.length c (M.map (Value.int .i64)) hx (by simp) ?_ ?_ ?_ ?_ ?_ ?_
  · intro j u hj
    rw [List.getElem?_map] at hj
    cases hm : M[j]? with
    | none => rw [hm] at hj; cases hj
    | some d =>
      rw [hm] at hj
      obtain rfl := Option.some.inj hj
      have := hM j d hm
      by_cases h0 : j = 0
      · subst h0; simpa [Addr.add] using this
      · simpa [Addr.add, h0] using this
  · intro u hu
    obtain ⟨d, _, rfl⟩ := List.mem_map.1 hu
    rfl
  · unfold maxLen; omega
  · omega
  · exact hbase
  · intro v' w' h1 h2 h3
    refine h v' w' ⟨?_, ?_⟩ ?_
    · simpa using h1
    · intro he
      exact hown.2 (h3.1 he).1
    · refine (Below.refl base W).grown h2 hbase ?_
      intro k hk
      rw [hv] at hk
      simp [Value.ownBlock] at hk
      omega
/-- make of n zeros. -/
theorem mkN {ops : Array Oper} {rest : List Oper} {o : Oper} {a : Act} {Q : Exit → Act → World → Prop} (hgd : o.guard = none) (s : Operand) (ho : o.op = Op.makeSlice 51 s s)
    (W : World) (base n : Nat) (hs : a.eval s = .int .i64 (n : Int)) (hn : n ≤ 1000000) (hbase : base ≤ W.heap.size)
    (h : ∀ w', Ow w' base (.slice (some ⟨W.heap.size, 0, none⟩) n n) (List.replicate n 0) → Below base W w' → wpList Tryd.prog ops Q rest (a.put o.dst (.slice (some ⟨W.heap.size, 0, none⟩) n n)) w') : wpList Tryd.prog ops Q (o :: rest) a W := by
  obtain ⟨i0, hi, hz0, hz1, hz2⟩ := info_parts info_int
  refine wpList_make_full W hgd s s 51 ho base 3 i0 (.int .i64 0) 1 Tryd.underlying51 hi hz0 hz1 .i64 .i64 (n : Int) (n : Int) n hs hs rfl rfl (by rw [hz2]; omega) (by unfold maxLen; omega) hbase ?_
  intro w' h1 h2
  refine h w' ⟨?_, by simp⟩ ((Below.refl base W).grown h2 hbase (fun k hk => by cases hk))
  have e : (madeCells (Value.int .i64 0).cells (n * 1)).toList = (List.replicate n (0 : Int)).map (Value.int .i64) := by
    rw [List.map_replicate, Nat.mul_one]
    exact toList_madeCells_one _ _
  rw [e] at h1
  simpa using h1
theorem ds_mul {n : Nat} (k : Nat) (h : n ≠ 0) : ds (n * 10 ^ k) = List.replicate k 0 ++ ds n := by
  induction k with
  | zero => simp
  | succ k ih =>
    have h1 : n * 10 ^ (k + 1) = n * 10 ^ k * 10 := by rw [Nat.pow_succ, Nat.mul_assoc]
    have h2 : n * 10 ^ (k + 1) ≠ 0 := by rw [h1]; have := Nat.mul_pos (Nat.pos_of_ne_zero h) (p10 k); omega
    rw [ds_step h2, h1, Nat.mul_mod_left, Nat.mul_div_cancel _ (by omega), ih, List.replicate_succ]
    rfl
set_option maxRecDepth 100000 in
set_option maxHeartbeats 4000000 in
theorem shift_zero (b off cap : Nat) (k : Int) (w : World) (_ht : Tab w) : Calls Tryd.prog 47 #[.slice (some ⟨b, off, none⟩) 0 cap, .int .i64 k] w fun e w' => e = .returned (.slice (some ⟨b, off, none⟩) 0 cap) ∧ w = w' := by
  go_enter Tryd.func47, Tryd.ntmps47
  go_wp2_with fail
  go_returns
  exact ⟨rfl, rfl⟩
set_option maxRecDepth 100000 in
set_option maxHeartbeats 4000000 in
/-- shift, of a slice that reads as the digits of a number. -/
theorem refshift (v : Value) (n k : Nat) (w : World) (ht : Tab w) (h : Sl w v (ds n)) (hn : dg n ≤ 100000) (hk : k ≤ 100000) :
    Calls Tryd.prog 47 #[v, .int .i64 (k : Int)] w fun e w' => ∃ v', e = .returned v' ∧ Sl w' v' (ds (n * 10 ^ k)) ∧ Kept w w' := by
  have hlt := ht.lt
  have hlt0 := ht.lt0
  obtain ⟨b, off, cap, rfl, hc, hm, hb, hg⟩ := h
  by_cases h0 : n = 0
  · subst h0
    rw [Nat.zero_mul]
    have hl : (ds 0).length = 0 := by rw [ds_len, dg_zero]
    rw [hl]
    refine (shift_zero b off cap k w ht).mono fun e w' ⟨he, hw⟩ => ?_
    subst hw
    exact ⟨_, he, ⟨b, off, cap, by rw [hl], by omega, hm, hb, hg⟩, Kept.refl ht⟩
  · have hl0 : 0 < (ds n).length := by rw [ds_len]; have := dg_ne h0; omega
    have hl1 : (ds n).length ≤ 100000 := by rw [ds_len]; exact hn
    have HM := Lib.hid (ds_mul k h0)
    have HG := Lib.hid hg
    have hk0 : (0 : Int) ≤ (k : Int) := by omega
    clear hg h0
    obtain ⟨M, hM⟩ : ∃ M, ds n = M := ⟨_, rfl⟩
    rw [hM] at HM HG hl0 hl1 hc ⊢
    clear hM
    go_enter Tryd.func47, Tryd.ntmps47
    go_wp2_with (first | (at_make; refine mkN rfl _ rfl w w.heap.size k ?_ (by omega) (Nat.le_refl _) ?_; rfl; intro w1 ho1 hb1) | (at_builtin; refine appN rfl _ _ rfl w1 w.heap.size _ (List.replicate k 0) M b off cap ?_ ?_ (fun j u hj => (hb1.cell (p := ⟨b, off + j, none⟩) hb).trans (HG.out j u hj)) ho1 (by rw [List.length_replicate]; omega) hb1.size ?_; rfl; rfl; intro v2 w2 ho2 hb2))
    go_returns
    exact ⟨_, rfl, by rw [HM.out]; exact ho2.sl, Kept.mk ht (hb1.trans hb2)⟩
end Go.Proofs.YtanfhlkfmmglhaaDoor
/- The reference's times. Condition: the tables hold what their initialisers lay. -/
namespace Go.Proofs.YtanfhlkfmmglhaaDoor
open Go.ChangeShapes Go.WideShapes Go.ChangeAt Go.RowKit
attribute [local go_sem ↓] Go.wp_at_zero Go.wp_at_succ

theorem Ow.drew {w : World} {base : Nat} {v : Value} {l : List Int} (h : Ow w base v l) : Ow w.drew base v l := ⟨h.1.drew, h.2⟩
theorem Ow.set {w : World} {base g n cap : Nat} {L : List Int} (h : Ow w base (.slice (some ⟨g, 0, none⟩) n cap) L) (hl : L.length = n) (j : Nat) (u : Int) :
    Ow (w.setCell ⟨g, j, none⟩ (.int .i64 u)) base (.slice (some ⟨g, 0, none⟩) n cap) (L.set j u) := by
  subst hl
  refine ⟨?_, h.2⟩
  rw [List.length_set, List.map_set]
  exact (h.1.stored j (.int .i64 u)).1
theorem Ow.block {w : World} {base g n cap : Nat} {L : List Int} (h : Ow w base (.slice (some ⟨g, 0, none⟩) n cap) L) : base ≤ g ∧ g < w.heap.size := h.1.lt g rfl
theorem Ow.at {w : World} {base g n cap : Nat} {L : List Int} (h : Ow w base (.slice (some ⟨g, 0, none⟩) n cap) L) (hl : L.length = n) {j : Nat} {x : Int} (hx : L[j]? = some x) : w.cell? ⟨g, j, none⟩ = some (.int .i64 x) := by
  subst hl
  have hj : j < L.length := by
    rcases Nat.lt_or_ge j L.length with h | h
    · exact h
    · rw [List.getElem?_eq_none h] at hx; cases hx
  rw [h.1.cellAt j (by omega), List.getElem?_map, hx]
  rfl
theorem Ow.soft {w : World} {base g n cap : Nat} {L : List Int} (h : Ow w base (.slice (some ⟨g, 0, none⟩) n cap) L) (hl : L.length = n) (j : Nat) : w.frozen? ⟨g, j, none⟩ = false := by
  subst hl
  exact h.1.frozenAt j

def TmO (A B : List Int) (n : Nat) (w : World) (i : Value) (wr : World) : Prop :=
  ∃ (j : Nat) (L : List Int), i = .int .i64 (j : Int) ∧ j ≤ A.length ∧ Ow wr w.heap.size (.slice (some ⟨w.heap.size, 0, none⟩) n n) L ∧ Below w.heap.size w wr ∧ Hid (L.length = n) ∧ Hid (Bdd L (81 * ((j * B.length : Nat) : Int))) ∧ Hid (lv L = lv (A.take j) * lv B)
def TmI (A B : List Int) (n j : Nat) (a : Int) (w : World) (i : Value) (wr : World) : Prop :=
  ∃ (k : Nat) (L : List Int), i = .int .i64 (k : Int) ∧ k ≤ B.length ∧ Ow wr w.heap.size (.slice (some ⟨w.heap.size, 0, none⟩) n n) L ∧ Below w.heap.size w wr ∧ Hid (L.length = n) ∧ Hid (Bdd L (81 * ((j * B.length + k : Nat) : Int))) ∧ Hid (lv L = lv (A.take j) * lv B + 10 ^ j * (a.toNat * lv (B.take k)))
def TmC (M : Int) (V n : Nat) (w : World) (i : Value) (wr : World) : Prop :=
  ∃ (j : Nat) (L : List Int), i = .int .i64 (j : Int) ∧ (j : Int) ≤ (n : Int) ∧ Hid (j ≤ n - 1) ∧ Ow wr w.heap.size (.slice (some ⟨w.heap.size, 0, none⟩) n n) L ∧ Below w.heap.size w wr ∧ Hid (L.length = n) ∧ Hid (Cy M j L) ∧ Hid (lv L = V)

set_option maxRecDepth 100000 in
set_option maxHeartbeats 8000000 in
theorem times_at (b off cap c off2 cap2 : Nat) (A B : List Int) (w : World) (ht : Tab w) (hA : Dl A) (hB : Dl B) (na : A.length ≤ 200) (nb : B.length ≤ 200)
    (h1 : b < w.heap.size) (h2 : c < w.heap.size) (g1 : ∀ j u, A[j]? = some u → w.cell? ⟨b, off + j, none⟩ = some (.int .i64 u)) (g2 : ∀ j u, B[j]? = some u → w.cell? ⟨c, off2 + j, none⟩ = some (.int .i64 u)) :
    Calls Tryd.prog 43 #[.slice (some ⟨b, off, none⟩) A.length cap, .slice (some ⟨c, off2, none⟩) B.length cap2] w fun e w' => ∃ v, e = .returned v ∧ Sl w' v (ds (lv A * lv B)) ∧ Kept w w' := by
  have G1 := Lib.hid g1
  have G2 := Lib.hid g2
  clear g1 g2
  have hlt := ht.lt
  have hlt0 := ht.lt0
  obtain ⟨n, hn⟩ : ∃ n, A.length + B.length = n := ⟨_, rfl⟩
  have hn' : (A.length : Int) + (B.length : Int) = (n : Int) := by omega
  have HN := Lib.hid hn
  have hnl : n ≤ 400 := by omega
  clear hn
  go_enter Tryd.func43, Tryd.ntmps43
  go_wp2_with (first | (at_make; refine mkN rfl _ rfl w w.heap.size n ?_ (by omega) (Nat.le_refl _) ?_; rfl; intro w1 ho1 hb1))
  clear hn'
  go_loopw [6] (TmO A B n w) (fun i _ => A.length - (intOf i).toNat)
  case atStart => exact ⟨0, _, rfl, Nat.zero_le _, ho1, hb1, Lib.hid (List.length_replicate ..), Lib.hid (Bdd.zeros n _ (by omega)), Lib.hid (by rw [lv_zeros]; simp [lv])⟩
  case round =>
    clear ho1
    obtain ⟨j, L, rfl, hj, hown, hbw, hl, hbd, hv⟩ := hrel
    by_cases hja : j < A.length
    · obtain ⟨a, ha⟩ := get_lt hja
      have HA := Lib.hid ha
      have A0 := hA.get ha
      clear ha
      go_wp2_with fail
      go_loopw [7] (TmI A B n j a w) (fun k _ => B.length - (intOf k).toNat)
      case atStart => exact ⟨0, L, rfl, Nat.zero_le _, hown, hbw, hl, hbd, Lib.hid (by rw [hv.out]; simp [lv])⟩
      case round =>
        clear hown hbw hl hbd hv
        obtain ⟨k, L2, rfl, hk, hown, hbw, hl, hbd, hv⟩ := hrel
        by_cases hkb : k < B.length
        · obtain ⟨d, hd⟩ := get_lt hkb
          have D0 := hB.get hd
          have hi : j + k < L2.length := by rw [hl.out, ← HN.out]; omega
          obtain ⟨x, hx⟩ := get_lt hi
          have X0 := hbd.out.get hx
          have hjb : j * B.length ≤ 200 * 200 := Nat.mul_le_mul (by omega) nb
          have HAD : 0 ≤ a * d ∧ a * d ≤ 81 := ⟨Int.mul_nonneg A0.1 D0.1, by
            have h1 := Int.mul_le_mul A0.2 D0.2 D0.1 (by omega : (0 : Int) ≤ 9)
            omega⟩
          have HS := Lib.hid (tm_step (V := x + a * d) hx X0.1 A0.1 D0.1 hd rfl hv.out)
          have HB : Hid (Bdd (L2.set (j + k) (x + a * d)) (81 * ((j * B.length + (k + 1) : Nat) : Int))) := Lib.hid ((hbd.out.mono (by omega)).set _ (by omega) (by omega))
          have c1 : wr.cell? ⟨b, off + j, none⟩ = some (.int .i64 a) := (hbw.cell (p := ⟨b, off + j, none⟩) h1).trans (G1.out j a HA.out)
          have c2 : wr.cell? ⟨c, off2 + k, none⟩ = some (.int .i64 d) := (hbw.cell (p := ⟨c, off2 + k, none⟩) h2).trans (G2.out k d hd)
          have c3 : wr.cell? ⟨w.heap.size, j + k, none⟩ = some (.int .i64 x) := hown.at hl.out hx
          have c4 := hown.soft hl.out
          have hbs := hbw.size
          have c5 : w.heap.size < wr.heap.size := hown.block.2
          have hin : (j : Int) + (k : Int) < (n : Int) := by rw [hl.out] at hi; omega
          have HO := Lib.hid (hown.set hl.out (j + k) (x + a * d))
          have HL : Hid ((L2.set (j + k) (x + a * d)).length = n) := Lib.hid (by rw [List.length_set]; exact hl.out)
          have x0 := X0.1
          have x1 : x ≤ 81 * 40200 := by omega
          obtain ⟨m0, m1⟩ := HAD
          clear hx hd X0 hjb hi hbd hv hl hown
          have hbW : Below w.heap.size w (wr.setCell ⟨w.heap.size, j + k, none⟩ (.int .i64 (x + a * d))) := hbw.setCell (Nat.le_refl _) _
          go_wp2_with fail
          go_region
          all_goals
            go_wp2_with fail
            go_roundw
            case rel => exact ⟨k + 1, _, by go_num, by omega, by first | exact HO.out | exact HO.out.drew, by first | exact hbW | exact hbW.drew, HL, HB, HS⟩
            case measure => simp [intOf]; omega
        · obtain rfl : k = B.length := by omega
          have HV := Lib.hid (tm_row HA.out hv.out)
          have HB2 : Hid (Bdd L2 (81 * (((j + 1) * B.length : Nat) : Int))) := Lib.hid (by rw [Nat.add_mul, Nat.one_mul]; exact hbd.out)
          clear hv hbd
          go_wp2_with fail
          go_roundw
          case rel => exact ⟨j + 1, L2, by go_num, by omega, hown, hbw, hl, HB2, HV⟩
          case measure => simp [intOf]; omega
    · obtain rfl : j = A.length := by omega
      have HV : Hid (lv L = lv A * lv B) := Lib.hid (by rw [hv.out, List.take_length])
      have hM : A.length * B.length ≤ 200 * 200 := Nat.mul_le_mul na nb
      have HCY : Hid (Cy (81 * ((A.length * B.length : Nat) : Int)) 0 L) := Lib.hid (Cy.start hbd.out (by omega))
      obtain ⟨M, hMM⟩ : ∃ M : Int, 81 * ((A.length * B.length : Nat) : Int) = M := ⟨_, rfl⟩
      rw [hMM] at HCY
      have hM0 : 0 ≤ M := by omega
      have hM1 : M ≤ 81 * 40000 := by omega
      obtain ⟨V, hVV⟩ : ∃ V : Nat, lv A * lv B = V := ⟨_, rfl⟩
      rw [hVV] at HV
      have HVV := Lib.hid hVV
      have HVL : Hid (V < 10 ^ n) := Lib.hid (by
        rw [← hVV, ← HN.out, Nat.pow_add]
        exact Nat.mul_lt_mul_of_lt_of_lt (lv_lt hA) (lv_lt hB))
      clear hMM hVV hM hbd hv
      go_wp2_with fail
      go_loopw [8] (TmC M V n w) (fun i _ => n - (intOf i).toNat)
      case atStart => exact ⟨0, L, rfl, by omega, Lib.hid (Nat.zero_le _), hown, hbw, hl, HCY, HV⟩
      case round =>
        clear hown hbw hl HCY HV
        obtain ⟨i, L2, rfl, hi, hin, hown, hbw, hl, hcy, hv⟩ := hrel
        by_cases hin2 : i + 1 < n
        · obtain ⟨x, hx⟩ := get_lt (show i < L2.length by rw [hl.out]; omega)
          obtain ⟨y, hy⟩ := get_lt (show i + 1 < L2.length by rw [hl.out]; exact hin2)
          obtain ⟨x0, _, _, x3⟩ := hcy.out i x hx
          obtain ⟨y0, _, _, y3⟩ := hcy.out (i + 1) y hy
          have HC2 := Lib.hid (hcy.out.step hM0 hx hy)
          have HV2 : Hid (lv ((L2.set (i + 1) (y + x / 10)).set i (x % 10)) = V) := Lib.hid (by rw [cy_lv hcy.out hx hy]; exact hv.out)
          have c1 : wr.cell? ⟨w.heap.size, i, none⟩ = some (.int .i64 x) := hown.at hl.out hx
          have c2 : wr.cell? ⟨w.heap.size, i + 1, none⟩ = some (.int .i64 y) := hown.at hl.out hy
          have c3 := hown.soft hl.out
          have hbs := hbw.size
          have c5 : w.heap.size < wr.heap.size := hown.block.2
          have hlt2 : (i : Int) < (n : Int) - 1 := by omega
          have hlt3 : (i : Int) + 1 < (n : Int) := by omega
          have hlt4 : (i : Int) < (n : Int) := by omega
          have HO1 := hown.set hl.out (i + 1) (y + x / 10)
          have hl1 : (L2.set (i + 1) (y + x / 10)).length = n := by rw [List.length_set]; exact hl.out
          have HO := Lib.hid (HO1.set hl1 i (x % 10))
          have HOD := Lib.hid (HO1.drew.set hl1 i (x % 10))
          have HL : Hid (((L2.set (i + 1) (y + x / 10)).set i (x % 10)).length = n) := Lib.hid (by rw [List.length_set]; exact hl1)
          clear hx hy hown hl hcy hv HO1 hl1
          go_wp2_with fail
          go_region
          all_goals
            go_wp2_with fail
            go_roundw
            case rel => exact ⟨i + 1, _, by go_num, by omega, Lib.hid (by omega), by first | exact HO.out | exact HOD.out | exact HO.out.drew, (by repeat' (first | exact hbw | refine Below.setCell ?_ ?_ _ | refine Below.drew ?_ | (simp; done))), HL, HC2, HV2⟩
            case measure => simp [intOf]; omega
        · have hdl : Hid (Dl L2) := Lib.hid (by
            have h1 := hin.out
            obtain rfl : i = n - 1 := by omega
            exact cy_end hcy.out hl.out (by rw [hv.out]; exact HVL.out))
          have hll : L2.length ≤ 1000000 := by rw [hl.out]; omega
          have HT := Lib.hid (trim_any _ L2 wr (ht.of_below hbw) hdl.out hll hown.sl)
          have hge : ¬ (i : Int) < (n : Int) - 1 := by omega
          clear hown hll
          go_wp2_with (first | (go_at_call 81; (with_reducible refine HT.out.mono ?_); rintro e w1 ⟨v', rfl, hs, hk1⟩))
          go_returns
          exact ⟨_, rfl, by rw [HVV.out, ← hv.out]; exact hs, Kept.trans (Kept.mk ht hbw) hk1⟩
/-- times, of slices that read as the digits of numbers. -/
theorem reftimes (v u : Value) (a b : Nat) (w : World) (ht : Tab w) (h1 : Sl w v (ds a)) (h2 : Sl w u (ds b)) (ha : dg a ≤ 200) (hb : dg b ≤ 200) :
    Calls Tryd.prog 43 #[v, u] w fun e w' => ∃ v, e = .returned v ∧ Sl w' v (ds (a * b)) ∧ Kept w w' := by
  obtain ⟨b1, o1, c1, rfl, p1, q1, r1, s1⟩ := h1
  obtain ⟨b2, o2, c2, rfl, p2, q2, r2, s2⟩ := h2
  have := times_at b1 o1 c1 b2 o2 c2 (ds a) (ds b) w ht (ds_dl a) (ds_dl b) (by rw [ds_len]; exact ha) (by rw [ds_len]; exact hb) r1 r2 s1 s2
  rw [lv_ds, lv_ds] at this
  exact this
end Go.Proofs.YtanfhlkfmmglhaaDoor
/- Slices that read as lists: their form and cells; literals. No condition. -/
namespace Go.Proofs.YtanfhlkfmmglhaaDoor
open Go.ChangeShapes Go.WideShapes Go.ChangeAt Go.RowKit

theorem Sl.cells {w : World} {b off n c : Nat} {l : List Int} (h : Sl w (.slice (some ⟨b, off, none⟩) n c) l) : ∀ j u, l[j]? = some u → w.cell? ⟨b, off + j, none⟩ = some (.int .i64 u) := by
  obtain ⟨b', off', cap, he, h2, h3, h4, h5⟩ := h
  simp at he
  obtain ⟨⟨rfl, rfl⟩, rfl, rfl⟩ := he
  exact h5
theorem Sl.form {w : World} {v : Value} {l : List Int} (h : Sl w v l) : ∃ b off c : Nat, v = .slice (some ⟨b, off, none⟩) l.length c ∧ b < w.heap.size := by
  obtain ⟨b, off, c, h1, _, _, h4, _⟩ := h
  exact ⟨b, off, c, h1, h4⟩
theorem Ow.lit (w : World) {base : Nat} (hb : base ≤ w.heap.size) (l : List Int) (hl : l.length ≤ 1000000) : Ow (w.alloc (.cells (l.map (Value.int .i64)).toArray 3)) base (.slice (some ⟨w.heap.size, 0, none⟩) l.length l.length) l :=
  ⟨by have := World.ownsRow_lit (e := 3) (size := 1) w (l.map (Value.int .i64)).toArray l.length hb (by unfold maxLen; omega) (by simp); simpa using this, by simp⟩
end Go.Proofs.YtanfhlkfmmglhaaDoor
/- The reference's divide. Condition: the tables hold what their initialisers lay. -/
namespace Go.Proofs.YtanfhlkfmmglhaaDoor
open Go.ChangeShapes Go.WideShapes Go.ChangeAt Go.RowKit
attribute [local go_sem ↓] Go.wp_at_zero Go.wp_at_succ

theorem Dl.one {d : Int} (h0 : 0 ≤ d) (h9 : d ≤ 9) : Dl [d] := Dl.mk h0 h9 Dl.nil
theorem lit_kept {w w1 : World} {o : Obj} (ht : Tab w) (hb : Below w.heap.size (w.alloc o) w1) : Kept w w1 := Kept.mk ht (((Below.refl _ _).alloc (Nat.le_refl _) _).trans hb)
def DvO (A : List Int) (B : Nat) (w : World) (q r i : Value) (wr : World) : Prop :=
  ∃ (k : Nat) (v : Int) (lq : List Int) (R : Nat) (zq zr : Value), zq = q ∧ zr = r ∧ i = .int .i64 v ∧ Hid (v = (k : Int) - 1) ∧ k ≤ A.length ∧ Sl wr zq lq ∧ Dl lq ∧ Hid (lq.length + k = A.length) ∧ Sl wr zr (ds R) ∧ Hid (lv lq * B + R = lv (A.drop k)) ∧ Hid (R < B) ∧ Kept w wr
def DvI (B S : Nat) (w : World) (r d : Value) (wr : World) : Prop :=
  ∃ (e R : Nat) (zr : Value), zr = r ∧ d = .int .i64 (e : Int) ∧ Sl wr zr (ds R) ∧ Hid (e * B + R = S) ∧ e ≤ 9 ∧ Kept w wr

theorem cmpN_ge {a b : Nat} (h : b ≤ a) : 0 ≤ cmpN a b := by
  unfold cmpN
  rw [if_neg (by omega)]
  split <;> omega
theorem cmpN_lt {a b : Nat} (h : a < b) : cmpN a b = -1 := by unfold cmpN; rw [if_pos h]
theorem cons_ds {x : Int} {R : Nat} (h0 : 0 ≤ x) (h9 : x ≤ 9) : Dl ([x] ++ ds R) ∧ lv ([x] ++ ds R) = x.toNat + 10 * R := by
  refine ⟨Dl.mk h0 h9 (ds_dl R), ?_⟩
  show x.toNat + 10 * lv (ds R) = _
  rw [lv_ds]

set_option maxRecDepth 100000 in
set_option maxHeartbeats 8000000 in
theorem divide_at (b off cap : Nat) (A : List Int) (u : Value) (B : Nat) (w : World) (ht : Tab w) (hA : Dl A) (na : A.length ≤ 500) (hB : dg B ≤ 500) (hB0 : 0 < B)
    (h1 : b < w.heap.size) (g1 : ∀ j u, A[j]? = some u → w.cell? ⟨b, off + j, none⟩ = some (.int .i64 u)) (h2 : Sl w u (ds B)) :
    Calls Tryd.prog 46 #[.slice (some ⟨b, off, none⟩) A.length cap, u] w fun e w' => ∃ q r, e = .returned (.tuple #[q, r]) ∧ Sl w' q (ds (lv A / B)) ∧ Sl w' r (ds (lv A % B)) ∧ Kept w w' := by
  have G1 := Lib.hid g1
  have HU := Lib.hid h2
  have HB0 := Lib.hid hB0
  obtain ⟨b2, off2, cap2, rfl, hb2⟩ := h2.form
  rw [ds_len] at *
  have HBD := Lib.hid hB
  clear g1 h2 hB hB0
  generalize hnB : dg B = nB at *
  have HNB := Lib.hid hnB
  clear hnB
  have hlt := ht.lt
  have hlt0 := ht.lt0
  go_enter Tryd.func46, Tryd.ntmps46
  go_wp2_with fail
  go_loopw [6, 7, 8] (DvO A B w) (fun _ _ i _ => (intOf i + 1).toNat)
  case atStart =>
    refine ⟨A.length, _, [], 0, _, _, rfl, rfl, rfl, Lib.hid rfl, Nat.le_refl _, ((Ow.new w (Nat.le_refl _)).alloc _).sl, Dl.nil, Lib.hid (Nat.zero_add _), ?_, Lib.hid (by rw [List.drop_length]; simp [lv]), HB0, ((Kept.refl ht).alloc _).alloc _⟩
    rw [ds_zero]
    have h := (Ow.new (w.alloc (.cells #[] 3)) (Nat.le_refl _)).sl
    rwa [World.size_alloc] at h
  case round =>
    obtain ⟨k, v, lq, R, zq, zr, rfl, rfl, rfl, hvk, hk, hq, hDq, hlq, hr, hv, hRB, hkr⟩ := hrel
    have HQ := Lib.hid hq
    have HR := Lib.hid hr
    by_cases h0 : k = 0
    · subst h0
      obtain rfl : v = -1 := by have := hvk.out; omega
      have HE : Hid (lv lq = lv A / B ∧ R = lv A % B) := Lib.hid (dv_end (by have := hv.out; rwa [List.drop_zero] at this) hRB.out)
      have hlq1 : lq.length ≤ 1000000 := by have := hlq.out; omega
      have HT := Lib.hid (trim_any zq lq wr hkr.1 hDq hlq1 hq)
      clear hq hr hlq hv hRB
      go_wp2_with (first | (go_at_call 81; (with_reducible refine HT.out.mono ?_); rintro e w1 ⟨v', rfl, hs, hk1⟩))
      go_ret2
      exact ⟨_, _, rfl, by rw [← HE.out.1]; exact hs, by rw [← HE.out.2]; exact HR.out.call hk1, hkr.trans hk1⟩
    · obtain ⟨k', rfl⟩ : ∃ k', k = k' + 1 := ⟨k - 1, by omega⟩
      obtain rfl : v = (k' : Int) := by have := hvk.out; omega
      obtain ⟨x, hx⟩ := get_lt (show k' < A.length by omega)
      have X0 := hA.get hx
      have HX := Lib.hid hx
      have c1 : wr.cell? ⟨b, off + k', none⟩ = some (.int .i64 x) := (hkr.2.cell (p := ⟨b, off + k', none⟩) h1).trans (G1.out k' x hx)
      have hk1' : (k' : Int) < (A.length : Int) := by omega
      have hbr : b < wr.heap.size := by have := hkr.2.size; omega
      obtain ⟨b3, off3, cap3, rfl, hb3⟩ := hr.form
      obtain ⟨b4, off4, cap4, rfl, hb4⟩ := hq.form
      have hRl : (ds R).length ≤ 500 := by
        rw [ds_len]
        exact Nat.le_trans (dg_mono (Nat.le_of_lt hRB.out)) (by rw [HNB.out]; exact HBD.out)
      have hlql : lq.length ≤ 500 := by have := hlq.out; omega
      obtain ⟨D1, L1⟩ := cons_ds (R := R) X0.1 X0.2
      have HD1 := Lib.hid D1
      have HL1 := Lib.hid L1
      have hlen1 : ([x] ++ ds R).length ≤ 1000000 := by rw [List.length_append]; simp; omega
      have HLEN1 := Lib.hid hlen1
      have HSUM : Hid ([x].length + (ds R).length ≤ 1000000) := Lib.hid (by simp; omega)
      have htr := hkr.1
      have HK := Lib.hid hkr
      have HDQ := Lib.hid hDq
      clear hx hq hr D1 L1 hlen1 hDq hkr
      have HUB : Hid (∀ W, Kept w W → Sl W (.slice (some ⟨b2, off2, none⟩) nB cap2) (ds B)) := Lib.hid (fun W h => HU.out.call h)
      go_wp2_with (first
        | (at_builtin; refine appN rfl _ _ rfl (wr.alloc (.cells #[.int .i64 x] 3)) wr.heap.size _ [x] (ds R) b3 off3 cap3 ?_ ?_ (HR.out.alloc _).cells (Ow.lit wr (Nat.le_refl _) [x] (by simp)) HSUM.out (by simp) ?_; rfl; rfl; intro v1 w1 ho1 hb1; have hk1 := lit_kept htr hb1; have HO1 := Lib.hid ho1.sl; clear ho1)
        | (go_at_call 81; refine (trim_any v1 ([x] ++ ds R) w1 hk1.1 HD1.out HLEN1.out HO1.out).mono ?_; rintro e w2 ⟨v2, rfl, hs2, hk2⟩))
      rw [HL1.out] at hs2
      have hk12 := hk1.trans hk2
      have HS2 := Lib.hid hs2
      clear hs2 hk1 hk2
      obtain ⟨S, hS⟩ : ∃ S, x.toNat + 10 * R = S := ⟨_, rfl⟩
      rw [hS] at HS2
      have HSS := Lib.hid hS
      clear hS
      obtain ⟨wo, rfl⟩ : ∃ wo : World, wo = wr := ⟨_, rfl⟩
      go_loopw [7, 9] (DvI B S wo) (fun _ d _ => 10 - (intOf d).toNat)
      case atStart => exact ⟨0, S, _, rfl, rfl, HS2.out, Lib.hid (by rw [Nat.zero_mul, Nat.zero_add]), by omega, hk12⟩
      case round =>
        clear hk12 HS2 HO1
        obtain ⟨e, R2, z, rfl, rfl, hr2, hv2, he9, hkz⟩ := hrel
        have HZ := Lib.hid hr2
        have HKZ := Lib.hid hkz
        have hdR2 : R2 ≤ S := by have := hv2.out; omega
        clear hr2
        have HR2L : Hid (dg R2 ≤ 600) := Lib.hid (by
          have h1 : lv ([x] ++ ds R) = S := by rw [HL1.out, HSS.out]
          have h2 := dg_mono hdR2
          have h3 : dg S ≤ 501 := by
            rw [← h1, ← ds_len]
            have h4 := lv_lt HD1.out
            have h5 := (dg_iff _ _).2 h4
            rw [ds_len]
            rw [List.length_append] at h5
            simp only [List.length_singleton] at h5
            omega
          omega)
        clear hdR2
        by_cases hc : B ≤ R2
        · obtain ⟨c, hcc⟩ : ∃ c, cmpN R2 B = c := ⟨_, rfl⟩
          have c0 : 0 ≤ c := by rw [← hcc]; exact cmpN_ge hc
          have HC : Hid (∀ W, Kept wo W → Sl W z (ds R2) → Calls Tryd.prog 79 #[z, .slice (some ⟨b2, off2, none⟩) nB cap2] W fun e w' => e = .returned (.int .i64 c) ∧ Kept W w') := Lib.hid (fun W h1 h2 => by
            have := refcmp z _ R2 B W h1.1 h2 (HUB.out W (HK.out.trans h1)) (by have := HR2L.out; omega)
            rwa [hcc] at this)
          have HM : Hid (∀ W, Kept wo W → Sl W z (ds R2) → Calls Tryd.prog 80 #[z, .slice (some ⟨b2, off2, none⟩) nB cap2] W fun e w' => ∃ v, e = .returned v ∧ Sl w' v (ds (R2 - B)) ∧ Kept W w') := Lib.hid (fun W h1 h2 => refminus z _ R2 B W h1.1 h2 (HUB.out W (HK.out.trans h1)) (by have := HR2L.out; omega) hc)
          have HN : Hid ((e + 1) * B + (R2 - B) = S) := Lib.hid (dv_sub hv2.out hc)
          have he10 : e + 1 ≤ 9 := by
            have h1 := HN.out
            rw [← HSS.out] at h1
            exact dv_nine (x := x.toNat) (by omega) hRB.out h1
          clear hcc hc
          go_wp2_with (first
            | (go_at_call 79; (with_reducible refine (HC.out _ HKZ.out HZ.out).mono ?_); rintro e' w3 ⟨rfl, hk3⟩; have HK3 := Lib.hid (HKZ.out.trans hk3); have HZ3 := Lib.hid (HZ.out.call hk3))
            | (go_at_call 80; (with_reducible refine (HM.out _ HK3.out HZ3.out).mono ?_); rintro e' w4 ⟨v4, rfl, hs4, hk4⟩))
          go_roundw
          case rel => exact ⟨e + 1, R2 - B, _, rfl, by go_num, hs4, HN, he10, HK3.out.trans hk4⟩
          case measure => simp [intOf]; omega
        · have hlt2 : R2 < B := by omega
          have HC : Hid (∀ W, Kept wo W → Sl W z (ds R2) → Calls Tryd.prog 79 #[z, .slice (some ⟨b2, off2, none⟩) nB cap2] W fun e w' => e = .returned (.int .i64 (-1)) ∧ Kept W w') := Lib.hid (fun W h1 h2 => by
            have := refcmp z _ R2 B W h1.1 h2 (HUB.out W (HK.out.trans h1)) (by have := HR2L.out; omega)
            rwa [cmpN_lt hlt2] at this)
          have HLT := Lib.hid hlt2
          have HST : Hid (lv ((e : Int) :: lq) * B + R2 = lv (A.drop k')) := Lib.hid (dv_step HX.out (by omega) hv.out (by have := hv2.out; rw [← HSS.out] at this; exact this))
          have HDC : Hid (Dl ((e : Int) :: lq)) := Lib.hid (Dl.mk (by omega) (by omega) HDQ.out)
          have HLL : Hid (((e : Int) :: lq).length + k' = A.length) := Lib.hid (by have := hlq.out; rw [List.length_cons]; omega)
          have HSUM2 : Hid ([(e : Int)].length + lq.length ≤ 1000000) := Lib.hid (by rw [List.length_singleton]; omega)
          clear hc hlt2
          go_wp2_with (first
            | (go_at_call 79; (with_reducible refine (HC.out _ HKZ.out HZ.out).mono ?_); rintro e' w3 ⟨rfl, hk3⟩; have HK3 := Lib.hid (HKZ.out.trans hk3); have HZ3 := Lib.hid (HZ.out.call hk3))
            | (at_builtin; refine appN rfl _ _ rfl (w3.alloc (.cells #[.int .i64 (e : Int)] 3)) w3.heap.size _ [(e : Int)] lq b4 off4 cap4 ?_ ?_ ((HQ.out.call HK3.out).alloc _).cells (Ow.lit w3 (Nat.le_refl _) [(e : Int)] (by simp)) HSUM2.out (by simp) ?_; rfl; rfl; intro v5 w5 ho5 hb5; have hk5 := lit_kept HK3.out.1 hb5; have HO5 := Lib.hid ho5.sl; clear ho5))
          go_roundw
          case rel => exact ⟨k', _, (e : Int) :: lq, R2, _, _, rfl, rfl, rfl, Lib.hid rfl, by omega, HO5.out, HDC.out, HLL, HZ3.out.call hk5, HST, HLT, (HK.out.trans HK3.out).trans hk5⟩
          case measure => simp [intOf]
/-- divide, of slices that read as the digits of numbers. -/
theorem refdivide (v u : Value) (a b : Nat) (w : World) (ht : Tab w) (h1 : Sl w v (ds a)) (h2 : Sl w u (ds b)) (ha : dg a ≤ 500) (hb : dg b ≤ 500) (hb0 : 0 < b) :
    Calls Tryd.prog 46 #[v, u] w fun e w' => ∃ q r, e = .returned (.tuple #[q, r]) ∧ Sl w' q (ds (a / b)) ∧ Sl w' r (ds (a % b)) ∧ Kept w w' := by
  obtain ⟨b1, o1, c1, rfl, p1, q1, r1, s1⟩ := h1
  have := divide_at b1 o1 c1 (ds a) u b w ht (ds_dl a) (by rw [ds_len]; exact ha) hb hb0 r1 s1 h2
  rw [lv_ds] at this
  exact this
end Go.Proofs.YtanfhlkfmmglhaaDoor
