/- The reference's minus. Condition: the tables hold what their initialisers lay. -/
import Derived.Test.YtamkajckaomdlaaDoorGRf2
import Derived.RegionTactic
import Derived.BigRegion
import Derived.Test.YtamkajckaomdlaaDoorGRh
import Derived.Test.YtamkajckaomdlaaDoorGBrk
import Derived.Test.YtamkajckaomdlaaDoorGRk
import Derived.Deep.RegionHeld3
import Derived.IntWalk
namespace Go.Proofs.YtamkajckaomdlaaDoor
open Go.ChangeShapes Go.WideShapes Go.ChangeAt Go.RowKit
attribute [local go_sem ↓] Go.wp_at_zero Go.wp_at_succ

theorem minus_step {l A B : List Int} {i : Nat} {c d c' : Int} (hl : l.length = i) (h : lv l + lv (B.take i) = lv (A.take i) + 10 ^ i * c.toNat) (hc : 0 ≤ c) (hc' : 0 ≤ c') (hx : 0 ≤ dgt0 A i) (hy : 0 ≤ dgt0 B i) (h0 : 0 ≤ d) (hd : d + c + dgt0 B i = dgt0 A i + 10 * c') :
    lv (l ++ [d]) + lv (B.take (i + 1)) = lv (A.take (i + 1)) + 10 ^ (i + 1) * c'.toNat := by
  have e : 10 ^ i * d.toNat + 10 ^ i * c.toNat + 10 ^ i * (dgt0 B i).toNat = 10 ^ i * (dgt0 A i).toNat + 10 ^ (i + 1) * c'.toNat := by
    rw [Nat.pow_succ, Nat.mul_assoc, ← Nat.mul_add, ← Nat.mul_add, ← Nat.mul_add]
    congr 1
    omega
  rw [lv_snoc, hl, lv_next, lv_next]
  omega
/-- What holds at each round's head of minus. -/
def MiRel (A B : List Int) (w : World) (o c i : Value) (wr : World) : Prop :=
  ∃ (n : Nat) (l : List Int) (z : Value) (k : Int), z = o ∧ c = .int .i64 k ∧ i = .int .i64 (n : Int) ∧ Ow wr w.heap.size z l ∧ Below w.heap.size w wr ∧ Hid (l.length = n) ∧ Dl l ∧ 0 ≤ k ∧ k ≤ 1 ∧ n ≤ A.length ∧ Hid (lv l + lv (B.take n) = lv (A.take n) + 10 ^ n * k.toNat)
set_option maxRecDepth 100000 in
set_option maxHeartbeats 8000000 in
theorem minus_at (b off cap c off2 cap2 : Nat) (A B : List Int) (w : World) (ht : Tab w) (hA : Dl A) (hB : Dl B) (na : A.length ≤ 100000) (nb : B.length ≤ A.length) (hle : lv B ≤ lv A)
    (h1 : b < w.heap.size) (h2 : c < w.heap.size) (g1 : ∀ j u, A[j]? = some u → w.cell? ⟨b, off + j, none⟩ = some (.int .i64 u)) (g2 : ∀ j u, B[j]? = some u → w.cell? ⟨c, off2 + j, none⟩ = some (.int .i64 u)) :
    Calls Tryd.prog 88 #[.slice (some ⟨b, off, none⟩) A.length cap, .slice (some ⟨c, off2, none⟩) B.length cap2] w fun e w' => ∃ v, e = .returned v ∧ Sl w' v (ds (lv A - lv B)) ∧ Kept w w' := by
  have G1 := Lib.hid g1
  have G2 := Lib.hid g2
  have HLE := Lib.hid hle
  clear g1 g2 hle
  have hlt := ht.lt
  have hlt0 := ht.lt0
  go_enter Tryd.func88, Tryd.ntmps88
  go_wp2_with fail
  go_loopw [5, 6, 7] (MiRel A B w) (fun _ _ i _ => A.length - (intOf i).toNat)
  case atStart => exact ⟨0, [], _, 0, rfl, rfl, rfl, Ow.new w (Nat.le_refl _), (Below.refl _ _).alloc (Nat.le_refl _) _, Lib.hid rfl, Dl.nil, by omega, by omega, by omega, Lib.hid rfl⟩
  case round =>
    obtain ⟨n, l, z, k, rfl, rfl, rfl, hown, hbw, hl, hD, k0, k1, hn, hv⟩ := hrel
    have hbs := hbw.size
    have X := dgt0_dl hA n
    have Y := dgt0_dl hB n
    have tl : l.length ≤ 1000000 := by have := hl.out; omega
    by_cases ha : n < A.length
    · obtain ⟨x, hx⟩ := get_lt ha
      have c1 : wr.cell? ⟨b, off + n, none⟩ = some (.int .i64 x) := (hbw.cell (p := ⟨b, off + n, none⟩) h1).trans (G1.out n x hx)
      have hb1 : b < wr.heap.size := by omega
      rw [dgt0_in hx] at X
      have HX := Lib.hid (dgt0_in hx)
      clear hx
      by_cases hb : n < B.length
      · obtain ⟨y, hy⟩ := get_lt hb
        have c2 : wr.cell? ⟨c, off2 + n, none⟩ = some (.int .i64 y) := (hbw.cell (p := ⟨c, off2 + n, none⟩) h2).trans (G2.out n y hy)
        have hb2 : c < wr.heap.size := by omega
        rw [dgt0_in hy] at Y
        have HY := Lib.hid (dgt0_in hy)
        clear hy
        by_cases hd : x - k - y < 0
        · have HS := Lib.hid (minus_step (d := x - k - y + 10) (c' := 1) hl.out hv.out k0 (by omega) (by rw [HX.out]; exact X.1) (by rw [HY.out]; exact Y.1) (by omega) (by rw [HX.out, HY.out]; omega))
          go_wp2_with (at_builtin; refine app1 rfl _ _ rfl wr w.heap.size z l (x - k - y + 10) ?_ ?_ hown tl hbs ?_; rfl; rfl; intro v' w1 hown' hb')
          clear hown
          go_wp2
          go_roundw
          case rel => exact ⟨n + 1, l ++ [x - k - y + 10], _, 1, rfl, rfl, by go_num, hown', hbw.trans hb', Lib.hid (by rw [List.length_append, hl.out]; rfl), hD.snoc (by omega) (by omega), by omega, by omega, by omega, HS⟩
          case measure => simp [intOf]; omega
        · have HS := Lib.hid (minus_step (d := x - k - y) (c' := 0) hl.out hv.out k0 (by omega) (by rw [HX.out]; exact X.1) (by rw [HY.out]; exact Y.1) (by omega) (by rw [HX.out, HY.out]; omega))
          go_wp2_with (at_builtin; refine app1 rfl _ _ rfl wr w.heap.size z l (x - k - y) ?_ ?_ hown tl hbs ?_; rfl; rfl; intro v' w1 hown' hb')
          clear hown
          go_wp2
          go_roundw
          case rel => exact ⟨n + 1, l ++ [x - k - y], _, 0, rfl, rfl, by go_num, hown', hbw.trans hb', Lib.hid (by rw [List.length_append, hl.out]; rfl), hD.snoc (by omega) (by omega), by omega, by omega, by omega, HS⟩
          case measure => simp [intOf]; omega
      · have hbo := Lib.hid (dgt0_out (L := B) (i := n) (by omega))
        by_cases hd : x - k < 0
        · have HS := Lib.hid (minus_step (d := x - k + 10) (c' := 1) hl.out hv.out k0 (by omega) (by rw [HX.out]; exact X.1) (by rw [hbo.out]; omega) (by omega) (by rw [HX.out, hbo.out]; omega))
          go_wp2_with (at_builtin; refine app1 rfl _ _ rfl wr w.heap.size z l (x - k + 10) ?_ ?_ hown tl hbs ?_; rfl; rfl; intro v' w1 hown' hb')
          clear hown
          go_wp2
          go_roundw
          case rel => exact ⟨n + 1, l ++ [x - k + 10], _, 1, rfl, rfl, by go_num, hown', hbw.trans hb', Lib.hid (by rw [List.length_append, hl.out]; rfl), hD.snoc (by omega) (by omega), by omega, by omega, by omega, HS⟩
          case measure => simp [intOf]; omega
        · have HS := Lib.hid (minus_step (d := x - k) (c' := 0) hl.out hv.out k0 (by omega) (by rw [HX.out]; exact X.1) (by rw [hbo.out]; omega) (by omega) (by rw [HX.out, hbo.out]; omega))
          go_wp2_with (at_builtin; refine app1 rfl _ _ rfl wr w.heap.size z l (x - k) ?_ ?_ hown tl hbs ?_; rfl; rfl; intro v' w1 hown' hb')
          clear hown
          go_wp2
          go_roundw
          case rel => exact ⟨n + 1, l ++ [x - k], _, 0, rfl, rfl, by go_num, hown', hbw.trans hb', Lib.hid (by rw [List.length_append, hl.out]; rfl), hD.snoc (by omega) (by omega), by omega, by omega, by omega, HS⟩
          case measure => simp [intOf]; omega
    · have HV : Hid (lv l = lv A - lv B) := Lib.hid (by
        have h := hv.out
        have e := HLE.out
        have hlt := lv_lt hD
        rw [hl.out] at hlt
        rw [List.take_of_length_le (by omega), List.take_of_length_le (by omega)] at h
        rcases (by omega : k = 0 ∨ k = 1) with rfl | rfl
        · simp at h; omega
        · simp at h; omega)
      have HT := Lib.hid (trim_any z l wr (ht.of_below hbw) hD tl hown.sl)
      clear hown X Y
      go_wp2_with (first | (go_at_call 89; (with_reducible refine HT.out.mono ?_); rintro e w1 ⟨v', rfl, hs, hk1⟩))
      go_returns
      exact ⟨_, rfl, by rw [← HV.out]; exact hs, Kept.trans (Kept.mk ht hbw) hk1⟩
/-- minus, of slices that read as the digits of numbers. -/
theorem refminus (v u : Value) (a b : Nat) (w : World) (ht : Tab w) (h1 : Sl w v (ds a)) (h2 : Sl w u (ds b)) (ha : dg a ≤ 100000) (hba : b ≤ a) :
    Calls Tryd.prog 88 #[v, u] w fun e w' => ∃ v, e = .returned v ∧ Sl w' v (ds (a - b)) ∧ Kept w w' := by
  obtain ⟨b1, o1, c1, rfl, p1, q1, r1, s1⟩ := h1
  obtain ⟨b2, o2, c2, rfl, p2, q2, r2, s2⟩ := h2
  have := minus_at b1 o1 c1 b2 o2 c2 (ds a) (ds b) w ht (ds_dl a) (ds_dl b) (by rw [ds_len]; exact ha) (by rw [ds_len, ds_len]; exact dg_mono hba) (by rw [lv_ds, lv_ds]; exact hba) r1 r2 s1 s2
  rw [lv_ds, lv_ds] at this
  exact this
end Go.Proofs.YtamkajckaomdlaaDoor
/- Products of lists of digits: plain mathematics. No condition. -/
namespace Go.Proofs.YtamkajckaomdlaaDoor

theorem lv_set {l : List Int} {j : Nat} {x : Int} (v : Int) (h : l[j]? = some x) : lv (l.set j v) + 10 ^ j * x.toNat = lv l + 10 ^ j * v.toNat := by
  induction l generalizing j with
  | nil => simp at h
  | cons d l ih =>
    cases j with
    | zero => simp at h; subst h; simp [lv]; omega
    | succ j =>
      have := ih (j := j) (by simpa using h)
      show d.toNat + 10 * lv (l.set j v) + 10 ^ (j + 1) * x.toNat = d.toNat + 10 * lv l + 10 ^ (j + 1) * v.toNat
      rw [Nat.pow_succ, Nat.mul_comm _ 10, Nat.mul_assoc, Nat.mul_assoc]
      omega
theorem lv_zeros (n : Nat) : lv (List.replicate n 0) = 0 := by
  induction n with
  | zero => rfl
  | succ n ih => rw [List.replicate_succ]; show (0 : Int).toNat + 10 * lv (List.replicate n 0) = 0; rw [ih]; rfl
/-- All are between two bounds. -/
def Bdd (l : List Int) (M : Int) : Prop := ∀ d ∈ l, 0 ≤ d ∧ d ≤ M
theorem Bdd.get {l : List Int} {M : Int} (h : Bdd l M) {j : Nat} {x : Int} (hj : l[j]? = some x) : 0 ≤ x ∧ x ≤ M := h x (List.mem_of_getElem? hj)
theorem Bdd.mono {l : List Int} {M K : Int} (h : Bdd l M) (hk : M ≤ K) : Bdd l K := fun d hd => ⟨(h d hd).1, Int.le_trans (h d hd).2 hk⟩
theorem Bdd.set {l : List Int} {M : Int} (h : Bdd l M) (j : Nat) {v : Int} (h0 : 0 ≤ v) (h1 : v ≤ M) : Bdd (l.set j v) M := fun d hd => by
  rcases List.mem_or_eq_of_mem_set hd with hd | rfl
  · exact h d hd
  · exact ⟨h0, h1⟩
theorem Bdd.zeros (n : Nat) (M : Int) (h : 0 ≤ M) : Bdd (List.replicate n 0) M := fun d hd => by
  obtain ⟨_, rfl⟩ := List.mem_replicate.1 hd
  exact ⟨Int.le_refl _, h⟩
/-- One product of digits more. -/
theorem tm_step {A B L : List Int} {i k : Nat} {a b x V : Int} (hx : L[i + k]? = some x) (h0 : 0 ≤ x) (ha : 0 ≤ a) (hb : 0 ≤ b) (hB : B[k]? = some b) (hV : V = x + a * b)
    (h : lv L = lv (A.take i) * lv B + 10 ^ i * (a.toNat * lv (B.take k))) : lv (L.set (i + k) V) = lv (A.take i) * lv B + 10 ^ i * (a.toNat * lv (B.take (k + 1))) := by
  have h1 := lv_set V hx
  have hab : (a * b).toNat = a.toNat * b.toNat := by
    obtain ⟨n, rfl⟩ := Int.eq_ofNat_of_zero_le ha
    obtain ⟨m, rfl⟩ := Int.eq_ofNat_of_zero_le hb
    rw [← Int.natCast_mul]; rfl
  have hp : 0 ≤ a * b := Int.mul_nonneg ha hb
  have e : V.toNat = x.toNat + a.toNat * b.toNat := by rw [← hab]; omega
  rw [e, Nat.mul_add, h] at h1
  rw [lv_take hB, Nat.mul_add (a.toNat), Nat.mul_add (10 ^ i)]
  have e2 : 10 ^ i * (a.toNat * (10 ^ k * b.toNat)) = 10 ^ (i + k) * (a.toNat * b.toNat) := by
    rw [Nat.pow_add, Nat.mul_assoc]
    congr 1
    rw [Nat.mul_left_comm]
  omega
theorem tm_row {A B L : List Int} {i : Nat} {a : Int} (hA : A[i]? = some a) (h : lv L = lv (A.take i) * lv B + 10 ^ i * (a.toNat * lv (B.take B.length))) : lv L = lv (A.take (i + 1)) * lv B := by
  rw [List.take_length] at h
  rw [h, lv_take hA, Nat.add_mul, Nat.mul_assoc]
/-- What a list of sums is, of which the first i have given their tens on. -/
def Cy (M : Int) (i : Nat) (L : List Int) : Prop := ∀ j d, L[j]? = some d → 0 ≤ d ∧ (j < i → d ≤ 9) ∧ (i < j → d ≤ M) ∧ d ≤ 2 * M
theorem Cy.start {L : List Int} {M : Int} (h : Bdd L M) (h0 : 0 ≤ M) : Cy M 0 L := fun j d hj => by
  obtain ⟨a, b⟩ := h.get hj
  exact ⟨a, fun h => by omega, fun _ => b, by omega⟩
theorem Cy.step {M : Int} {i : Nat} {L : List Int} {x y : Int} (h : Cy M i L) (_hM : 0 ≤ M) (hx : L[i]? = some x) (hy : L[i + 1]? = some y) : Cy M (i + 1) ((L.set (i + 1) (y + x / 10)).set i (x % 10)) := by
  intro j d hj
  obtain ⟨x0, _, _, x3⟩ := h i x hx
  obtain ⟨y0, _, y2, _⟩ := h (i + 1) y hy
  have y2 := y2 (by omega)
  rw [List.getElem?_set] at hj
  split at hj
  · split at hj
    · obtain rfl := Option.some.inj hj
      subst_vars
      exact ⟨by omega, fun _ => by omega, fun h => by omega, by omega⟩
    · cases hj
  · rw [List.getElem?_set] at hj
    split at hj
    · split at hj
      · obtain rfl := Option.some.inj hj
        subst_vars
        exact ⟨by omega, fun h => by omega, fun h => by omega, by omega⟩
      · cases hj
    · obtain ⟨d0, d1, d2, d3⟩ := h j d hj
      exact ⟨d0, fun h => d1 (by omega), fun h => d2 (by omega), d3⟩
theorem cy_lv {M : Int} {i : Nat} {L : List Int} {x y : Int} (h : Cy M i L) (hx : L[i]? = some x) (hy : L[i + 1]? = some y) : lv ((L.set (i + 1) (y + x / 10)).set i (x % 10)) = lv L := by
  obtain ⟨x0, _⟩ := h i x hx
  obtain ⟨y0, _⟩ := h (i + 1) y hy
  have h1 := lv_set (y + x / 10) hy
  have hx' : (L.set (i + 1) (y + x / 10))[i]? = some x := by rw [List.getElem?_set_ne (by omega)]; exact hx
  have h2 := lv_set (x % 10) hx'
  have e : (y + x / 10).toNat = y.toNat + (x / 10).toNat := by omega
  rw [e, Nat.mul_add] at h1
  have e2 : 10 ^ (i + 1) * (x / 10).toNat + 10 ^ i * (x % 10).toNat = 10 ^ i * x.toNat := by
    rw [Nat.pow_succ, Nat.mul_assoc, ← Nat.mul_add]
    congr 1
    omega
  omega
theorem lv_ge {l : List Int} {j : Nat} {x : Int} (h : l[j]? = some x) : 10 ^ j * x.toNat ≤ lv l := by
  have := lv_set 0 h
  have e : (0 : Int).toNat = 0 := rfl
  rw [e, Nat.mul_zero] at this
  omega
theorem cy_end {M : Int} {n : Nat} {L : List Int} (h : Cy M (n - 1) L) (hl : L.length = n) (hv : lv L < 10 ^ n) : Dl L := by
  intro d hd
  obtain ⟨j, hj, rfl⟩ := List.getElem_of_mem hd
  have hj' := List.getElem?_eq_getElem hj
  obtain ⟨d0, d1, _, _⟩ := h j _ hj'
  refine ⟨d0, ?_⟩
  rcases Nat.lt_or_ge j (n - 1) with h1 | h1
  · exact d1 h1
  · have h2 := lv_ge hj'
    have e : j = n - 1 := by omega
    have e3 : n = (n - 1) + 1 := by omega
    rw [e3, Nat.pow_succ] at hv
    subst e
    generalize L[n - 1] = x at *
    have hp := p10 (n - 1)
    generalize 10 ^ (n - 1) = P at *
    have : P * x.toNat < P * 10 := by omega
    have := Nat.lt_of_mul_lt_mul_left this
    omega
end Go.Proofs.YtamkajckaomdlaaDoor
/- Quotients and roots digit by digit: plain mathematics. No condition. -/
namespace Go.Proofs.YtamkajckaomdlaaDoor

theorem lv_head (A : List Int) (k : Nat) {x : Int} (h : A[k]? = some x) : lv (A.drop k) = x.toNat + 10 * lv (A.drop (k + 1)) := lv_drop h
/-- One digit of a quotient more. -/
theorem dv_step {A q : List Int} {k b R S : Nat} {x d : Int} (hx : A[k]? = some x) (_d0 : 0 ≤ d) (hq : lv q * b + R = lv (A.drop (k + 1))) (hd : d.toNat * b + S = x.toNat + 10 * R) : lv (d :: q) * b + S = lv (A.drop k) := by
  rw [lv_head A k hx, ← hq]
  show (d.toNat + 10 * lv q) * b + S = _
  rw [Nat.add_mul, Nat.mul_assoc]
  omega
theorem dv_nine {b R d S : Nat} {x : Nat} (hx : x ≤ 9) (hR : R < b) (h : d * b + S = x + 10 * R) : d ≤ 9 := by
  rcases Nat.lt_or_ge d 10 with h1 | h1
  · omega
  · have := Nat.mul_le_mul_right b h1
    omega
theorem dv_sub {b d S T : Nat} (h : d * b + S = T) (hb : b ≤ S) : (d + 1) * b + (S - b) = T := by
  rw [Nat.add_mul, Nat.one_mul]
  omega
theorem dv_end {a b q R : Nat} (h : q * b + R = a) (hR : R < b) : q = a / b ∧ R = a % b := by
  have hb : 0 < b := by omega
  subst h
  rw [Nat.mul_comm, Nat.mul_add_div hb, Nat.mul_add_mod, Nat.div_eq_of_lt hR, Nat.mod_eq_of_lt hR]
  exact ⟨rfl, rfl⟩
/-- What next gives: (20 x + d) d. -/
def nx (x d : Nat) : Nat := (x * 20 + d) * d
theorem nx_le {x d e : Nat} (h : d ≤ e) : nx x d ≤ nx x e := Nat.mul_le_mul (by omega) h
theorem rt_sq {X R T u d : Nat} (h : X * X + R = T) (hd : nx X d ≤ u + 100 * R) : (10 * X + d) * (10 * X + d) + (u + 100 * R - nx X d) = u + 100 * T := by
  have e : (10 * X + d) * (10 * X + d) = 100 * (X * X) + nx X d := by
    unfold nx
    rw [Nat.add_mul, Nat.mul_add, Nat.add_mul, Nat.mul_add, show 10 * X * (10 * X) = 100 * (X * X) by rw [Nat.mul_mul_mul_comm], show X * 20 * d = 20 * (X * d) by rw [Nat.mul_comm X 20, Nat.mul_assoc], show 10 * X * d = 10 * (X * d) by rw [Nat.mul_assoc], show d * (10 * X) = 10 * (X * d) by rw [Nat.mul_left_comm, Nat.mul_comm d X]]
    omega
  rw [e]
  omega
theorem rt_hi {X R u d : Nat} (hR : R ≤ 2 * X) (hu : u ≤ 99) (hd9 : d ≤ 9) (hm : d = 9 ∨ u + 100 * R < nx X (d + 1)) (hd : nx X d ≤ u + 100 * R) : u + 100 * R - nx X d ≤ 2 * (10 * X + d) := by
  have e : nx X (d + 1) = nx X d + 20 * X + 2 * d + 1 := by
    unfold nx
    rw [show X * 20 + (d + 1) = (X * 20 + d) + 1 by omega, Nat.mul_add, Nat.add_mul, Nat.mul_one]
    omega
  have h9 : u + 100 * R < nx X (d + 1) := by
    rcases hm with rfl | hm
    · unfold nx; omega
    · exact hm
  omega
theorem rt_end {a X R : Nat} (h : X * X + R = a) (hR : R ≤ 2 * X) : X = isq a ∧ R = a - isq a * isq a := by
  have : isq a = X := isq_of (by omega) (by rw [Nat.mul_add, Nat.add_mul]; omega)
  rw [this]
  exact ⟨rfl, by omega⟩
theorem lv_two (A : List Int) (k : Nat) {x y : Int} (h : A[k]? = some x) (h' : A[k + 1]? = some y) : lv (A.drop k) = x.toNat + 10 * y.toNat + 100 * lv (A.drop (k + 2)) := by
  rw [lv_drop h, lv_drop (i := k + 1) h']
  show x.toNat + 10 * (y.toNat + 10 * lv (A.drop (k + 1 + 1))) = x.toNat + 10 * y.toNat + 100 * lv (A.drop (k + 2))
  rw [show k + 1 + 1 = k + 2 from rfl]
  omega
end Go.Proofs.YtamkajckaomdlaaDoor
/- The reference's times. Condition: the tables hold what their initialisers lay. -/
namespace Go.Proofs.YtamkajckaomdlaaDoor
open Go.ChangeShapes Go.WideShapes Go.ChangeAt Go.RowKit
attribute [local go_sem ↓] Go.wp_at_zero Go.wp_at_succ

theorem Ow.drew {w : World} {base : Nat} {v : Value} {l : List Int} (h : Ow w base v l) : Ow w.drew base v l := ⟨h.1.drew, h.2⟩
theorem Ow.set {w : World} {base g n cap : Nat} {L : List Int} (h : Ow w base (.slice (some ⟨g, 0, none⟩) n cap) L) (hl : L.length = n) (j : Nat) (u : Int) :
    Ow (w.setCell ⟨g, j, none⟩ (.int .i64 u)) base (.slice (some ⟨g, 0, none⟩) n cap) (L.set j u) := by
  subst hl
  refine ⟨?_, h.2⟩
  rw [List.length_set, List.map_set]
  exact (h.1.stored j (.int .i64 u)).1
theorem Ow.block {w : World} {base g n cap : Nat} {L : List Int} (h : Ow w base (.slice (some ⟨g, 0, none⟩) n cap) L) : base ≤ g ∧ g < w.heap.size := h.1.lt g rfl
theorem Ow.at {w : World} {base g n cap : Nat} {L : List Int} (h : Ow w base (.slice (some ⟨g, 0, none⟩) n cap) L) (hl : L.length = n) {j : Nat} {x : Int} (hx : L[j]? = some x) : w.cell? ⟨g, j, none⟩ = some (.int .i64 x) := by
  subst hl
  have hj : j < L.length := by
    rcases Nat.lt_or_ge j L.length with h | h
    · exact h
    · rw [List.getElem?_eq_none h] at hx; cases hx
  rw [h.1.cellAt j (by omega), List.getElem?_map, hx]
  rfl
theorem Ow.soft {w : World} {base g n cap : Nat} {L : List Int} (h : Ow w base (.slice (some ⟨g, 0, none⟩) n cap) L) (hl : L.length = n) (j : Nat) : w.frozen? ⟨g, j, none⟩ = false := by
  subst hl
  exact h.1.frozenAt j

def TmO (A B : List Int) (n : Nat) (w : World) (i : Value) (wr : World) : Prop :=
  ∃ (j : Nat) (L : List Int), i = .int .i64 (j : Int) ∧ j ≤ A.length ∧ Ow wr w.heap.size (.slice (some ⟨w.heap.size, 0, none⟩) n n) L ∧ Below w.heap.size w wr ∧ Hid (L.length = n) ∧ Hid (Bdd L (81 * ((j * B.length : Nat) : Int))) ∧ Hid (lv L = lv (A.take j) * lv B)
def TmI (A B : List Int) (n j : Nat) (a : Int) (w : World) (i : Value) (wr : World) : Prop :=
  ∃ (k : Nat) (L : List Int), i = .int .i64 (k : Int) ∧ k ≤ B.length ∧ Ow wr w.heap.size (.slice (some ⟨w.heap.size, 0, none⟩) n n) L ∧ Below w.heap.size w wr ∧ Hid (L.length = n) ∧ Hid (Bdd L (81 * ((j * B.length + k : Nat) : Int))) ∧ Hid (lv L = lv (A.take j) * lv B + 10 ^ j * (a.toNat * lv (B.take k)))
def TmC (M : Int) (V n : Nat) (w : World) (i : Value) (wr : World) : Prop :=
  ∃ (j : Nat) (L : List Int), i = .int .i64 (j : Int) ∧ (j : Int) ≤ (n : Int) ∧ Hid (j ≤ n - 1) ∧ Ow wr w.heap.size (.slice (some ⟨w.heap.size, 0, none⟩) n n) L ∧ Below w.heap.size w wr ∧ Hid (L.length = n) ∧ Hid (Cy M j L) ∧ Hid (lv L = V)

set_option maxRecDepth 100000 in
set_option maxHeartbeats 8000000 in
theorem times_at (b off cap c off2 cap2 : Nat) (A B : List Int) (w : World) (ht : Tab w) (hA : Dl A) (hB : Dl B) (na : A.length ≤ 200) (nb : B.length ≤ 200)
    (h1 : b < w.heap.size) (h2 : c < w.heap.size) (g1 : ∀ j u, A[j]? = some u → w.cell? ⟨b, off + j, none⟩ = some (.int .i64 u)) (g2 : ∀ j u, B[j]? = some u → w.cell? ⟨c, off2 + j, none⟩ = some (.int .i64 u)) :
    Calls Tryd.prog 55 #[.slice (some ⟨b, off, none⟩) A.length cap, .slice (some ⟨c, off2, none⟩) B.length cap2] w fun e w' => ∃ v, e = .returned v ∧ Sl w' v (ds (lv A * lv B)) ∧ Kept w w' := by
  have G1 := Lib.hid g1
  have G2 := Lib.hid g2
  clear g1 g2
  have hlt := ht.lt
  have hlt0 := ht.lt0
  obtain ⟨n, hn⟩ : ∃ n, A.length + B.length = n := ⟨_, rfl⟩
  have hn' : (A.length : Int) + (B.length : Int) = (n : Int) := by omega
  have HN := Lib.hid hn
  have hnl : n ≤ 400 := by omega
  clear hn
  go_enter Tryd.func55, Tryd.ntmps55
  go_wp2_with (first | (at_make; refine mkN rfl _ rfl w w.heap.size n ?_ (by omega) (Nat.le_refl _) ?_; rfl; intro w1 ho1 hb1))
  clear hn'
  go_loopw [6] (TmO A B n w) (fun i _ => A.length - (intOf i).toNat)
  case atStart => exact ⟨0, _, rfl, Nat.zero_le _, ho1, hb1, Lib.hid (List.length_replicate ..), Lib.hid (Bdd.zeros n _ (by omega)), Lib.hid (by rw [lv_zeros]; simp [lv])⟩
  case round =>
    clear ho1
    obtain ⟨j, L, rfl, hj, hown, hbw, hl, hbd, hv⟩ := hrel
    by_cases hja : j < A.length
    · obtain ⟨a, ha⟩ := get_lt hja
      have HA := Lib.hid ha
      have A0 := hA.get ha
      clear ha
      go_wp2_with fail
      go_loopw [7] (TmI A B n j a w) (fun k _ => B.length - (intOf k).toNat)
      case atStart => exact ⟨0, L, rfl, Nat.zero_le _, hown, hbw, hl, hbd, Lib.hid (by rw [hv.out]; simp [lv])⟩
      case round =>
        clear hown hbw hl hbd hv
        obtain ⟨k, L2, rfl, hk, hown, hbw, hl, hbd, hv⟩ := hrel
        by_cases hkb : k < B.length
        · obtain ⟨d, hd⟩ := get_lt hkb
          have D0 := hB.get hd
          have hi : j + k < L2.length := by rw [hl.out, ← HN.out]; omega
          obtain ⟨x, hx⟩ := get_lt hi
          have X0 := hbd.out.get hx
          have hjb : j * B.length ≤ 200 * 200 := Nat.mul_le_mul (by omega) nb
          have HAD : 0 ≤ a * d ∧ a * d ≤ 81 := ⟨Int.mul_nonneg A0.1 D0.1, by
            have h1 := Int.mul_le_mul A0.2 D0.2 D0.1 (by omega : (0 : Int) ≤ 9)
            omega⟩
          have HS := Lib.hid (tm_step (V := x + a * d) hx X0.1 A0.1 D0.1 hd rfl hv.out)
          have HB : Hid (Bdd (L2.set (j + k) (x + a * d)) (81 * ((j * B.length + (k + 1) : Nat) : Int))) := Lib.hid ((hbd.out.mono (by omega)).set _ (by omega) (by omega))
          have c1 : wr.cell? ⟨b, off + j, none⟩ = some (.int .i64 a) := (hbw.cell (p := ⟨b, off + j, none⟩) h1).trans (G1.out j a HA.out)
          have c2 : wr.cell? ⟨c, off2 + k, none⟩ = some (.int .i64 d) := (hbw.cell (p := ⟨c, off2 + k, none⟩) h2).trans (G2.out k d hd)
          have c3 : wr.cell? ⟨w.heap.size, j + k, none⟩ = some (.int .i64 x) := hown.at hl.out hx
          have c4 := hown.soft hl.out
          have hbs := hbw.size
          have c5 : w.heap.size < wr.heap.size := hown.block.2
          have hin : (j : Int) + (k : Int) < (n : Int) := by rw [hl.out] at hi; omega
          have HO := Lib.hid (hown.set hl.out (j + k) (x + a * d))
          have HL : Hid ((L2.set (j + k) (x + a * d)).length = n) := Lib.hid (by rw [List.length_set]; exact hl.out)
          have x0 := X0.1
          have x1 : x ≤ 81 * 40200 := by omega
          obtain ⟨m0, m1⟩ := HAD
          clear hx hd X0 hjb hi hbd hv hl hown
          have hbW : Below w.heap.size w (wr.setCell ⟨w.heap.size, j + k, none⟩ (.int .i64 (x + a * d))) := hbw.setCell (Nat.le_refl _) _
          go_wp2_with fail
          go_region
          all_goals
            go_wp2_with fail
            go_roundw
            case rel => exact ⟨k + 1, _, by go_num, by omega, by first | exact HO.out | exact HO.out.drew, by first | exact hbW | exact hbW.drew, HL, HB, HS⟩
            case measure => simp [intOf]; omega
        · obtain rfl : k = B.length := by omega
          have HV := Lib.hid (tm_row HA.out hv.out)
          have HB2 : Hid (Bdd L2 (81 * (((j + 1) * B.length : Nat) : Int))) := Lib.hid (by rw [Nat.add_mul, Nat.one_mul]; exact hbd.out)
          clear hv hbd
          go_wp2_with fail
          go_roundw
          case rel => exact ⟨j + 1, L2, by go_num, by omega, hown, hbw, hl, HB2, HV⟩
          case measure => simp [intOf]; omega
    · obtain rfl : j = A.length := by omega
      have HV : Hid (lv L = lv A * lv B) := Lib.hid (by rw [hv.out, List.take_length])
      have hM : A.length * B.length ≤ 200 * 200 := Nat.mul_le_mul na nb
      have HCY : Hid (Cy (81 * ((A.length * B.length : Nat) : Int)) 0 L) := Lib.hid (Cy.start hbd.out (by omega))
      obtain ⟨M, hMM⟩ : ∃ M : Int, 81 * ((A.length * B.length : Nat) : Int) = M := ⟨_, rfl⟩
      rw [hMM] at HCY
      have hM0 : 0 ≤ M := by omega
      have hM1 : M ≤ 81 * 40000 := by omega
      obtain ⟨V, hVV⟩ : ∃ V : Nat, lv A * lv B = V := ⟨_, rfl⟩
      rw [hVV] at HV
      have HVV := Lib.hid hVV
      have HVL : Hid (V < 10 ^ n) := Lib.hid (by
        rw [← hVV, ← HN.out, Nat.pow_add]
        exact Nat.mul_lt_mul_of_lt_of_lt (lv_lt hA) (lv_lt hB))
      clear hMM hVV hM hbd hv
      go_wp2_with fail
      go_loopw [8] (TmC M V n w) (fun i _ => n - (intOf i).toNat)
      case atStart => exact ⟨0, L, rfl, by omega, Lib.hid (Nat.zero_le _), hown, hbw, hl, HCY, HV⟩
      case round =>
        clear hown hbw hl HCY HV
        obtain ⟨i, L2, rfl, hi, hin, hown, hbw, hl, hcy, hv⟩ := hrel
        by_cases hin2 : i + 1 < n
        · obtain ⟨x, hx⟩ := get_lt (show i < L2.length by rw [hl.out]; omega)
          obtain ⟨y, hy⟩ := get_lt (show i + 1 < L2.length by rw [hl.out]; exact hin2)
          obtain ⟨x0, _, _, x3⟩ := hcy.out i x hx
          obtain ⟨y0, _, _, y3⟩ := hcy.out (i + 1) y hy
          have HC2 := Lib.hid (hcy.out.step hM0 hx hy)
          have HV2 : Hid (lv ((L2.set (i + 1) (y + x / 10)).set i (x % 10)) = V) := Lib.hid (by rw [cy_lv hcy.out hx hy]; exact hv.out)
          have c1 : wr.cell? ⟨w.heap.size, i, none⟩ = some (.int .i64 x) := hown.at hl.out hx
          have c2 : wr.cell? ⟨w.heap.size, i + 1, none⟩ = some (.int .i64 y) := hown.at hl.out hy
          have c3 := hown.soft hl.out
          have hbs := hbw.size
          have c5 : w.heap.size < wr.heap.size := hown.block.2
          have hlt2 : (i : Int) < (n : Int) - 1 := by omega
          have hlt3 : (i : Int) + 1 < (n : Int) := by omega
          have hlt4 : (i : Int) < (n : Int) := by omega
          have HO1 := hown.set hl.out (i + 1) (y + x / 10)
          have hl1 : (L2.set (i + 1) (y + x / 10)).length = n := by rw [List.length_set]; exact hl.out
          have HO := Lib.hid (HO1.set hl1 i (x % 10))
          have HOD := Lib.hid (HO1.drew.set hl1 i (x % 10))
          have HL : Hid (((L2.set (i + 1) (y + x / 10)).set i (x % 10)).length = n) := Lib.hid (by rw [List.length_set]; exact hl1)
          clear hx hy hown hl hcy hv HO1 hl1
          go_wp2_with fail
          go_region
          all_goals
            go_wp2_with fail
            go_roundw
            case rel => exact ⟨i + 1, _, by go_num, by omega, Lib.hid (by omega), by first | exact HO.out | exact HOD.out | exact HO.out.drew, (by repeat' (first | exact hbw | refine Below.setCell ?_ ?_ _ | refine Below.drew ?_ | (simp; done))), HL, HC2, HV2⟩
            case measure => simp [intOf]; omega
        · have hdl : Hid (Dl L2) := Lib.hid (by
            have h1 := hin.out
            obtain rfl : i = n - 1 := by omega
            exact cy_end hcy.out hl.out (by rw [hv.out]; exact HVL.out))
          have hll : L2.length ≤ 1000000 := by rw [hl.out]; omega
          have HT := Lib.hid (trim_any _ L2 wr (ht.of_below hbw) hdl.out hll hown.sl)
          have hge : ¬ (i : Int) < (n : Int) - 1 := by omega
          clear hown hll
          go_wp2_with (first | (go_at_call 89; (with_reducible refine HT.out.mono ?_); rintro e w1 ⟨v', rfl, hs, hk1⟩))
          go_returns
          exact ⟨_, rfl, by rw [HVV.out, ← hv.out]; exact hs, Kept.trans (Kept.mk ht hbw) hk1⟩
/-- times, of slices that read as the digits of numbers. -/
theorem reftimes (v u : Value) (a b : Nat) (w : World) (ht : Tab w) (h1 : Sl w v (ds a)) (h2 : Sl w u (ds b)) (ha : dg a ≤ 200) (hb : dg b ≤ 200) :
    Calls Tryd.prog 55 #[v, u] w fun e w' => ∃ v, e = .returned v ∧ Sl w' v (ds (a * b)) ∧ Kept w w' := by
  obtain ⟨b1, o1, c1, rfl, p1, q1, r1, s1⟩ := h1
  obtain ⟨b2, o2, c2, rfl, p2, q2, r2, s2⟩ := h2
  have := times_at b1 o1 c1 b2 o2 c2 (ds a) (ds b) w ht (ds_dl a) (ds_dl b) (by rw [ds_len]; exact ha) (by rw [ds_len]; exact hb) r1 r2 s1 s2
  rw [lv_ds, lv_ds] at this
  exact this
end Go.Proofs.YtamkajckaomdlaaDoor
/- The reference's divide. Condition: the tables hold what their initialisers lay. -/
namespace Go.Proofs.YtamkajckaomdlaaDoor
open Go.ChangeShapes Go.WideShapes Go.ChangeAt Go.RowKit
attribute [local go_sem ↓] Go.wp_at_zero Go.wp_at_succ

theorem Dl.one {d : Int} (h0 : 0 ≤ d) (h9 : d ≤ 9) : Dl [d] := Dl.mk h0 h9 Dl.nil
theorem lit_kept {w w1 : World} {o : Obj} (ht : Tab w) (hb : Below w.heap.size (w.alloc o) w1) : Kept w w1 := Kept.mk ht (((Below.refl _ _).alloc (Nat.le_refl _) _).trans hb)
def DvO (A : List Int) (B : Nat) (w : World) (q r i : Value) (wr : World) : Prop :=
  ∃ (k : Nat) (v : Int) (lq : List Int) (R : Nat) (zq zr : Value), zq = q ∧ zr = r ∧ i = .int .i64 v ∧ Hid (v = (k : Int) - 1) ∧ k ≤ A.length ∧ Sl wr zq lq ∧ Dl lq ∧ Hid (lq.length + k = A.length) ∧ Sl wr zr (ds R) ∧ Hid (lv lq * B + R = lv (A.drop k)) ∧ Hid (R < B) ∧ Kept w wr
def DvI (B S : Nat) (w : World) (r d : Value) (wr : World) : Prop :=
  ∃ (e R : Nat) (zr : Value), zr = r ∧ d = .int .i64 (e : Int) ∧ Sl wr zr (ds R) ∧ Hid (e * B + R = S) ∧ e ≤ 9 ∧ Kept w wr

theorem cmpN_ge {a b : Nat} (h : b ≤ a) : 0 ≤ cmpN a b := by
  unfold cmpN
  rw [if_neg (by omega)]
  split <;> omega
theorem cmpN_lt {a b : Nat} (h : a < b) : cmpN a b = -1 := by unfold cmpN; rw [if_pos h]
theorem cons_ds {x : Int} {R : Nat} (h0 : 0 ≤ x) (h9 : x ≤ 9) : Dl ([x] ++ ds R) ∧ lv ([x] ++ ds R) = x.toNat + 10 * R := by
  refine ⟨Dl.mk h0 h9 (ds_dl R), ?_⟩
  show x.toNat + 10 * lv (ds R) = _
  rw [lv_ds]

set_option maxRecDepth 100000 in
set_option maxHeartbeats 8000000 in
theorem divide_at (b off cap : Nat) (A : List Int) (u : Value) (B : Nat) (w : World) (ht : Tab w) (hA : Dl A) (na : A.length ≤ 500) (hB : dg B ≤ 500) (hB0 : 0 < B)
    (h1 : b < w.heap.size) (g1 : ∀ j u, A[j]? = some u → w.cell? ⟨b, off + j, none⟩ = some (.int .i64 u)) (h2 : Sl w u (ds B)) :
    Calls Tryd.prog 57 #[.slice (some ⟨b, off, none⟩) A.length cap, u] w fun e w' => ∃ q r, e = .returned (.tuple #[q, r]) ∧ Sl w' q (ds (lv A / B)) ∧ Sl w' r (ds (lv A % B)) ∧ Kept w w' := by
  have G1 := Lib.hid g1
  have HU := Lib.hid h2
  have HB0 := Lib.hid hB0
  obtain ⟨b2, off2, cap2, rfl, hb2⟩ := h2.form
  rw [ds_len] at *
  have HBD := Lib.hid hB
  clear g1 h2 hB hB0
  generalize hnB : dg B = nB at *
  have HNB := Lib.hid hnB
  clear hnB
  have hlt := ht.lt
  have hlt0 := ht.lt0
  go_enter Tryd.func57, Tryd.ntmps57
  go_wp2_with fail
  go_loopw [6, 7, 8] (DvO A B w) (fun _ _ i _ => (intOf i + 1).toNat)
  case atStart =>
    refine ⟨A.length, _, [], 0, _, _, rfl, rfl, rfl, Lib.hid rfl, Nat.le_refl _, ((Ow.new w (Nat.le_refl _)).alloc _).sl, Dl.nil, Lib.hid (Nat.zero_add _), ?_, Lib.hid (by rw [List.drop_length]; simp [lv]), HB0, ((Kept.refl ht).alloc _).alloc _⟩
    rw [ds_zero]
    have h := (Ow.new (w.alloc (.cells #[] 3)) (Nat.le_refl _)).sl
    rwa [World.size_alloc] at h
  case round =>
    obtain ⟨k, v, lq, R, zq, zr, rfl, rfl, rfl, hvk, hk, hq, hDq, hlq, hr, hv, hRB, hkr⟩ := hrel
    have HQ := Lib.hid hq
    have HR := Lib.hid hr
    by_cases h0 : k = 0
    · subst h0
      obtain rfl : v = -1 := by have := hvk.out; omega
      have HE : Hid (lv lq = lv A / B ∧ R = lv A % B) := Lib.hid (dv_end (by have := hv.out; rwa [List.drop_zero] at this) hRB.out)
      have hlq1 : lq.length ≤ 1000000 := by have := hlq.out; omega
      have HT := Lib.hid (trim_any zq lq wr hkr.1 hDq hlq1 hq)
      clear hq hr hlq hv hRB
      go_wp2_with (first | (go_at_call 89; (with_reducible refine HT.out.mono ?_); rintro e w1 ⟨v', rfl, hs, hk1⟩))
      go_ret2
      exact ⟨_, _, rfl, by rw [← HE.out.1]; exact hs, by rw [← HE.out.2]; exact HR.out.call hk1, hkr.trans hk1⟩
    · obtain ⟨k', rfl⟩ : ∃ k', k = k' + 1 := ⟨k - 1, by omega⟩
      obtain rfl : v = (k' : Int) := by have := hvk.out; omega
      obtain ⟨x, hx⟩ := get_lt (show k' < A.length by omega)
      have X0 := hA.get hx
      have HX := Lib.hid hx
      have c1 : wr.cell? ⟨b, off + k', none⟩ = some (.int .i64 x) := (hkr.2.cell (p := ⟨b, off + k', none⟩) h1).trans (G1.out k' x hx)
      have hk1' : (k' : Int) < (A.length : Int) := by omega
      have hbr : b < wr.heap.size := by have := hkr.2.size; omega
      obtain ⟨b3, off3, cap3, rfl, hb3⟩ := hr.form
      obtain ⟨b4, off4, cap4, rfl, hb4⟩ := hq.form
      have hRl : (ds R).length ≤ 500 := by
        rw [ds_len]
        exact Nat.le_trans (dg_mono (Nat.le_of_lt hRB.out)) (by rw [HNB.out]; exact HBD.out)
      have hlql : lq.length ≤ 500 := by have := hlq.out; omega
      obtain ⟨D1, L1⟩ := cons_ds (R := R) X0.1 X0.2
      have HD1 := Lib.hid D1
      have HL1 := Lib.hid L1
      have hlen1 : ([x] ++ ds R).length ≤ 1000000 := by rw [List.length_append]; simp; omega
      have HLEN1 := Lib.hid hlen1
      have HSUM : Hid ([x].length + (ds R).length ≤ 1000000) := Lib.hid (by simp; omega)
      have htr := hkr.1
      have HK := Lib.hid hkr
      have HDQ := Lib.hid hDq
      clear hx hq hr D1 L1 hlen1 hDq hkr
      have HUB : Hid (∀ W, Kept w W → Sl W (.slice (some ⟨b2, off2, none⟩) nB cap2) (ds B)) := Lib.hid (fun W h => HU.out.call h)
      go_wp2_with (first
        | (at_builtin; refine appN rfl _ _ rfl (wr.alloc (.cells #[.int .i64 x] 3)) wr.heap.size _ [x] (ds R) b3 off3 cap3 ?_ ?_ (HR.out.alloc _).cells (Ow.lit wr (Nat.le_refl _) [x] (by simp)) HSUM.out (by simp) ?_; rfl; rfl; intro v1 w1 ho1 hb1; have hk1 := lit_kept htr hb1; have HO1 := Lib.hid ho1.sl; clear ho1)
        | (go_at_call 89; refine (trim_any v1 ([x] ++ ds R) w1 hk1.1 HD1.out HLEN1.out HO1.out).mono ?_; rintro e w2 ⟨v2, rfl, hs2, hk2⟩))
      rw [HL1.out] at hs2
      have hk12 := hk1.trans hk2
      have HS2 := Lib.hid hs2
      clear hs2 hk1 hk2
      obtain ⟨S, hS⟩ : ∃ S, x.toNat + 10 * R = S := ⟨_, rfl⟩
      rw [hS] at HS2
      have HSS := Lib.hid hS
      clear hS
      obtain ⟨wo, rfl⟩ : ∃ wo : World, wo = wr := ⟨_, rfl⟩
      go_loopw [7, 9] (DvI B S wo) (fun _ d _ => 10 - (intOf d).toNat)
      case atStart => exact ⟨0, S, _, rfl, rfl, HS2.out, Lib.hid (by rw [Nat.zero_mul, Nat.zero_add]), by omega, hk12⟩
      case round =>
        clear hk12 HS2 HO1
        obtain ⟨e, R2, z, rfl, rfl, hr2, hv2, he9, hkz⟩ := hrel
        have HZ := Lib.hid hr2
        have HKZ := Lib.hid hkz
        have hdR2 : R2 ≤ S := by have := hv2.out; omega
        clear hr2
        have HR2L : Hid (dg R2 ≤ 600) := Lib.hid (by
          have h1 : lv ([x] ++ ds R) = S := by rw [HL1.out, HSS.out]
          have h2 := dg_mono hdR2
          have h3 : dg S ≤ 501 := by
            rw [← h1, ← ds_len]
            have h4 := lv_lt HD1.out
            have h5 := (dg_iff _ _).2 h4
            rw [ds_len]
            rw [List.length_append] at h5
            simp only [List.length_singleton] at h5
            omega
          omega)
        clear hdR2
        by_cases hc : B ≤ R2
        · obtain ⟨c, hcc⟩ : ∃ c, cmpN R2 B = c := ⟨_, rfl⟩
          have c0 : 0 ≤ c := by rw [← hcc]; exact cmpN_ge hc
          have HC : Hid (∀ W, Kept wo W → Sl W z (ds R2) → Calls Tryd.prog 87 #[z, .slice (some ⟨b2, off2, none⟩) nB cap2] W fun e w' => e = .returned (.int .i64 c) ∧ Kept W w') := Lib.hid (fun W h1 h2 => by
            have := refcmp z _ R2 B W h1.1 h2 (HUB.out W (HK.out.trans h1)) (by have := HR2L.out; omega)
            rwa [hcc] at this)
          have HM : Hid (∀ W, Kept wo W → Sl W z (ds R2) → Calls Tryd.prog 88 #[z, .slice (some ⟨b2, off2, none⟩) nB cap2] W fun e w' => ∃ v, e = .returned v ∧ Sl w' v (ds (R2 - B)) ∧ Kept W w') := Lib.hid (fun W h1 h2 => refminus z _ R2 B W h1.1 h2 (HUB.out W (HK.out.trans h1)) (by have := HR2L.out; omega) hc)
          have HN : Hid ((e + 1) * B + (R2 - B) = S) := Lib.hid (dv_sub hv2.out hc)
          have he10 : e + 1 ≤ 9 := by
            have h1 := HN.out
            rw [← HSS.out] at h1
            exact dv_nine (x := x.toNat) (by omega) hRB.out h1
          clear hcc hc
          go_wp2_with (first
            | (go_at_call 87; (with_reducible refine (HC.out _ HKZ.out HZ.out).mono ?_); rintro e' w3 ⟨rfl, hk3⟩; have HK3 := Lib.hid (HKZ.out.trans hk3); have HZ3 := Lib.hid (HZ.out.call hk3))
            | (go_at_call 88; (with_reducible refine (HM.out _ HK3.out HZ3.out).mono ?_); rintro e' w4 ⟨v4, rfl, hs4, hk4⟩))
          go_roundw
          case rel => exact ⟨e + 1, R2 - B, _, rfl, by go_num, hs4, HN, he10, HK3.out.trans hk4⟩
          case measure => simp [intOf]; omega
        · have hlt2 : R2 < B := by omega
          have HC : Hid (∀ W, Kept wo W → Sl W z (ds R2) → Calls Tryd.prog 87 #[z, .slice (some ⟨b2, off2, none⟩) nB cap2] W fun e w' => e = .returned (.int .i64 (-1)) ∧ Kept W w') := Lib.hid (fun W h1 h2 => by
            have := refcmp z _ R2 B W h1.1 h2 (HUB.out W (HK.out.trans h1)) (by have := HR2L.out; omega)
            rwa [cmpN_lt hlt2] at this)
          have HLT := Lib.hid hlt2
          have HST : Hid (lv ((e : Int) :: lq) * B + R2 = lv (A.drop k')) := Lib.hid (dv_step HX.out (by omega) hv.out (by have := hv2.out; rw [← HSS.out] at this; exact this))
          have HDC : Hid (Dl ((e : Int) :: lq)) := Lib.hid (Dl.mk (by omega) (by omega) HDQ.out)
          have HLL : Hid (((e : Int) :: lq).length + k' = A.length) := Lib.hid (by have := hlq.out; rw [List.length_cons]; omega)
          have HSUM2 : Hid ([(e : Int)].length + lq.length ≤ 1000000) := Lib.hid (by rw [List.length_singleton]; omega)
          clear hc hlt2
          go_wp2_with (first
            | (go_at_call 87; (with_reducible refine (HC.out _ HKZ.out HZ.out).mono ?_); rintro e' w3 ⟨rfl, hk3⟩; have HK3 := Lib.hid (HKZ.out.trans hk3); have HZ3 := Lib.hid (HZ.out.call hk3))
            | (at_builtin; refine appN rfl _ _ rfl (w3.alloc (.cells #[.int .i64 (e : Int)] 3)) w3.heap.size _ [(e : Int)] lq b4 off4 cap4 ?_ ?_ ((HQ.out.call HK3.out).alloc _).cells (Ow.lit w3 (Nat.le_refl _) [(e : Int)] (by simp)) HSUM2.out (by simp) ?_; rfl; rfl; intro v5 w5 ho5 hb5; have hk5 := lit_kept HK3.out.1 hb5; have HO5 := Lib.hid ho5.sl; clear ho5))
          go_roundw
          case rel => exact ⟨k', _, (e : Int) :: lq, R2, _, _, rfl, rfl, rfl, Lib.hid rfl, by omega, HO5.out, HDC.out, HLL, HZ3.out.call hk5, HST, HLT, (HK.out.trans HK3.out).trans hk5⟩
          case measure => simp [intOf]
/-- divide, of slices that read as the digits of numbers. -/
theorem refdivide (v u : Value) (a b : Nat) (w : World) (ht : Tab w) (h1 : Sl w v (ds a)) (h2 : Sl w u (ds b)) (ha : dg a ≤ 500) (hb : dg b ≤ 500) (hb0 : 0 < b) :
    Calls Tryd.prog 57 #[v, u] w fun e w' => ∃ q r, e = .returned (.tuple #[q, r]) ∧ Sl w' q (ds (a / b)) ∧ Sl w' r (ds (a % b)) ∧ Kept w w' := by
  obtain ⟨b1, o1, c1, rfl, p1, q1, r1, s1⟩ := h1
  have := divide_at b1 o1 c1 (ds a) u b w ht (ds_dl a) (by rw [ds_len]; exact ha) hb hb0 r1 s1 h2
  rw [lv_ds] at this
  exact this
end Go.Proofs.YtamkajckaomdlaaDoor
/- The reference's next. Condition: the tables hold what their initialisers lay. -/
namespace Go.Proofs.YtamkajckaomdlaaDoor
open Go.ChangeShapes Go.WideShapes Go.ChangeAt Go.RowKit
attribute [local go_sem ↓] Go.wp_at_zero Go.wp_at_succ

theorem ds_twenty : ds 20 = [0, 2] := by
  rw [ds_step (by omega), ds_step (n := 20 / 10) (by omega)]
  show [((20 % 10 : Nat) : Int), ((2 % 10 : Nat) : Int)] ++ ds 0 = _
  rw [ds_zero]
  rfl
theorem Sl.twenty (w : World) : Sl (w.alloc (.cells #[.int .i64 0, .int .i64 2] 3)) (.slice (some ⟨w.heap.size, 0, none⟩) 2 2) (ds 20) := by
  rw [ds_twenty]
  exact (Ow.lit w (Nat.le_refl _) [0, 2] (by simp)).sl
theorem dg_mulle (a b : Nat) : dg (a * b) ≤ dg a + dg b := (dg_iff _ _).2 (by rw [Nat.pow_add]; exact Nat.mul_lt_mul_of_lt_of_lt (lt_dg a) (lt_dg b))
theorem dg_addle (a b : Nat) : dg (a + b) ≤ dg a + dg b + 1 := (dg_iff _ _).2 (by
  have h1 : 10 ^ dg a ≤ 10 ^ (dg a + dg b) := p10_le (by omega)
  have h2 : 10 ^ dg b ≤ 10 ^ (dg a + dg b) := p10_le (by omega)
  have h3 := lt_dg a
  have h4 := lt_dg b
  rw [Nat.pow_succ]
  omega)
theorem dg_nx {x d : Nat} (hx : dg x ≤ 60) (hd : d ≤ 10) : dg (x * 20) ≤ 62 ∧ dg d ≤ 2 ∧ dg (x * 20 + d) ≤ 65 ∧ dg (nx x d) ≤ 67 := by
  have h1 := dg_mulle x 20
  have h2 : dg 20 ≤ 2 := (dg_iff _ _).2 (by decide)
  have h3 : dg d ≤ 2 := (dg_iff _ _).2 (by omega)
  have h4 := dg_addle (x * 20) d
  have h5 := dg_mulle (x * 20 + d) d
  exact ⟨by omega, h3, by omega, by unfold nx; omega⟩
set_option maxRecDepth 100000 in
set_option maxHeartbeats 8000000 in
theorem refnext (v : Value) (x d : Nat) (w : World) (ht : Tab w) (h : Sl w v (ds x)) (hx : dg x ≤ 60) (hd : d ≤ 10) :
    Calls Tryd.prog 93 #[v, .int .i64 (d : Int)] w fun e w' => ∃ v', e = .returned v' ∧ Sl w' v' (ds (nx x d)) ∧ Kept w w' := by
  have hlt := ht.lt
  have hlt0 := ht.lt0
  obtain ⟨n1, n2, n3, n4⟩ := dg_nx hx hd
  have HV := Lib.hid h
  have HT1 : Hid (∀ W, Kept w W → Sl W v (ds x) → ∀ u, Sl W u (ds 20) → Calls Tryd.prog 55 #[v, u] W fun e w' => ∃ v', e = .returned v' ∧ Sl w' v' (ds (x * 20)) ∧ Kept W w') := Lib.hid (fun W k h1 u h2 => reftimes v u x 20 W k.1 h1 h2 (by omega) ((dg_iff _ _).2 (by decide)))
  have HO : Hid (∀ W, Kept w W → Calls Tryd.prog 43 #[.int .i64 (d : Int)] W fun e w' => ∃ v', e = .returned v' ∧ Sl w' v' (ds d) ∧ Kept W w' ∧ Nw W.heap.size v') := Lib.hid (fun W k => by
    have := Of_any (d : Int) W k.1 (by omega) (by omega)
    rwa [show mag (d : Int) = d by unfold mag; omega] at this)
  have HP : Hid (∀ W, Kept w W → ∀ a b, Sl W a (ds (x * 20)) → Sl W b (ds d) → Calls Tryd.prog 82 #[a, b] W fun e w' => ∃ v', e = .returned v' ∧ Sl w' v' (ds (x * 20 + d)) ∧ Kept W w') := Lib.hid (fun W k a b h1 h2 => refplus a b _ _ W k.1 h1 h2 (by omega) (by omega))
  have HT2 : Hid (∀ W, Kept w W → ∀ a b, Sl W a (ds (x * 20 + d)) → Sl W b (ds d) → Calls Tryd.prog 55 #[a, b] W fun e w' => ∃ v', e = .returned v' ∧ Sl w' v' (ds (nx x d)) ∧ Kept W w') := Lib.hid (fun W k a b h1 h2 => reftimes a b _ _ W k.1 h1 h2 (by omega) (by omega))
  have HK0 : Hid (Kept w (w.alloc (.cells #[.int .i64 0, .int .i64 2] 3))) := Lib.hid ((Kept.refl ht).alloc _)
  have HV0 := Lib.hid (h.alloc (.cells #[.int .i64 0, .int .i64 2] 3))
  clear h n1 n2 n3 n4 hx
  go_enter Tryd.func93, Tryd.ntmps93
  go_wp2_with (first
    | (go_at_call 55; (with_reducible refine (HT1.out _ HK0.out HV0.out _ (Sl.twenty w)).mono ?_); rintro e w1 ⟨v1, rfl, hs1, hk1⟩; have HK1 := Lib.hid (HK0.out.trans hk1); have HS1 := Lib.hid hs1; clear hs1 hk1)
    | (go_at_call 43; (with_reducible refine (HO.out _ HK1.out).mono ?_); rintro e w2 ⟨v2, rfl, hs2, hk2, -⟩; have HK2 := Lib.hid (HK1.out.trans hk2); have HS2 := Lib.hid hs2; have HS12 := Lib.hid (HS1.out.call hk2); clear hs2 hk2)
    | (go_at_call 82; (with_reducible refine (HP.out _ HK2.out _ _ HS12.out HS2.out).mono ?_); rintro e w3 ⟨v3, rfl, hs3, hk3⟩; have HK3 := Lib.hid (HK2.out.trans hk3); have HS3 := Lib.hid hs3; clear hs3 hk3)
    | (go_at_call 43; (with_reducible refine (HO.out _ HK3.out).mono ?_); rintro e w4 ⟨v4, rfl, hs4, hk4, -⟩; have HK4 := Lib.hid (HK3.out.trans hk4); have HS4 := Lib.hid hs4; have HS34 := Lib.hid (HS3.out.call hk4); clear hs4 hk4)
    | (go_at_call 55; (with_reducible refine (HT2.out _ HK4.out _ _ HS34.out HS4.out).mono ?_); rintro e w5 ⟨v5, rfl, hs5, hk5⟩))
  go_returns
  exact ⟨_, rfl, hs5, HK4.out.trans hk5⟩
end Go.Proofs.YtamkajckaomdlaaDoor
/- Quotients and roots with more digits than the program's are rounded alike: plain mathematics. No condition. -/
namespace Go.Proofs.YtamkajckaomdlaaDoor

theorem rRes_rv {p : Nat} {how : Int} {neg : Bool} {V W : Nat} {m k : Bool} (h : rv p how neg V m = rv p how neg W k) : rRes p how neg V m = rRes p how neg W k := by
  unfold rRes rM rE rX oV oF ovf
  rw [h]
theorem more_same {p : Nat} {how : Int} {neg : Bool} {q q' j : Nat} {T T' : Int} {m m' : Bool} (hT : T = T' + (j : Int)) (hT' : -1100 ≤ T') (hq : q' / 10 ^ j = q) (hp : p < dg q) (hm : m = (m' || decide (q' % 10 ^ j ≠ 0))) :
    rRes p how neg (sc q' T') m' = rRes p how neg (sc q T) m := by
  apply rRes_rv
  obtain ⟨a, ha⟩ : ∃ a : Nat, T' + 1100 = (a : Int) := ⟨(T' + 1100).toNat, by omega⟩
  have e1 : sc q' T' = q' * 10 ^ a := by unfold sc; rw [ha]; rfl
  have e2 : sc q T = q * 10 ^ (a + j) := by
    unfold sc
    have : (T + 1100).toNat = a + j := by omega
    rw [this]
  have hd : q' * 10 ^ a / 10 ^ (a + j) = q := by rw [scale_div, hq]
  rw [e1, e2, rv_norm (p := p) (j := a + j) (how := how) (neg := neg) (m := m') (by rw [hd]; exact hp), hd]
  congr 1
  rw [hm, scale_mod]
  congr 1
  have hp := p10 a
  by_cases h : q' % 10 ^ j = 0
  · rw [h]; simp
  · have := Nat.mul_pos (Nat.pos_of_ne_zero h) hp
    rw [decide_eq_true (by omega : q' % 10 ^ j * 10 ^ a ≠ 0), decide_eq_true h]
theorem div_more (N k j : Nat) (hk : k ≠ 0) : decide (N % k ≠ 0) = (decide (N * 10 ^ j % k ≠ 0) || decide (N * 10 ^ j / k % 10 ^ j ≠ 0)) := by
  have hp := p10 j
  have hk0 : 0 < k := Nat.pos_of_ne_zero hk
  rw [Bool.eq_iff_iff]
  simp only [Bool.or_eq_true, decide_eq_true_eq]
  constructor
  · intro h
    by_cases h1 : N * 10 ^ j % k = 0
    · right
      intro h2
      apply h
      have a := Nat.div_add_mod (N * 10 ^ j) k
      have b := Nat.div_add_mod (N * 10 ^ j / k) (10 ^ j)
      rw [h1] at a
      rw [h2, Nat.add_zero] at b
      rw [Nat.add_zero, ← b] at a
      have c : 10 ^ j * (k * (N * 10 ^ j / k / 10 ^ j)) = 10 ^ j * N := by rw [Nat.mul_left_comm, a, Nat.mul_comm]
      have d := Nat.eq_of_mul_eq_mul_left hp c
      rw [← d]
      exact Nat.mul_mod_right _ _
    · exact Or.inl h1
  · intro h h0
    have a := Nat.div_add_mod N k
    rw [h0, Nat.add_zero] at a
    have e : N * 10 ^ j = k * (N / k * 10 ^ j) := by rw [← Nat.mul_assoc, a]
    rw [e, Nat.mul_mod_right, Nat.mul_div_cancel_left _ hk0, Nat.mul_mod_left] at h
    omega
/-- The quotient with forty digits more is rounded as the program's. -/
theorem div_same {p n k : Nat} {how e f : Int} {neg : Bool} (hp : p ≤ 18) (hn : n ≠ 0) (hd : dg n ≤ 18) (hk : k ≠ 0) (hk' : k < 10 ^ 18) (he : -900 ≤ e - f) :
    rRes p how neg (sc (n * 10 ^ 40 / k) (e - f - 40)) (decide (n * 10 ^ 40 % k ≠ 0)) = rRes p how neg (sc (qN n k) (qT n e f)) (qM n k) := by
  obtain ⟨_, hq⟩ := q_facts hn hd hk hk'
  have ej : n * 10 ^ 40 = n * 10 ^ (37 - dg n) * 10 ^ (3 + dg n) := by
    rw [Nat.mul_assoc, ← Nat.pow_add]
    congr 2
    omega
  refine more_same (j := 3 + dg n) (by unfold qT; omega) (by omega) ?_ (by omega) ?_
  · rw [ej]
    unfold qN
    generalize n * 10 ^ (37 - dg n) = N
    rw [Nat.div_div_eq_div_mul, Nat.mul_div_mul_right _ _ (p10 _)]
  · rw [ej]
    unfold qM
    generalize n * 10 ^ (37 - dg n) = N
    exact div_more N k _ hk
theorem div_dg {n k : Nat} (hn : n ≠ 0) (hd : dg n ≤ 18) (hk : k ≠ 0) (hk' : k < 10 ^ 18) : 18 < dg (n * 10 ^ 40 / k) := by
  obtain ⟨_, hq⟩ := q_facts hn hd hk hk'
  have ej : n * 10 ^ 40 = n * 10 ^ (37 - dg n) * 10 ^ (3 + dg n) := by
    rw [Nat.mul_assoc, ← Nat.pow_add]
    congr 2
    omega
  have h : n * 10 ^ 40 / k / 10 ^ (3 + dg n) = qN n k := by
    rw [ej]
    unfold qN
    rw [Nat.div_div_eq_div_mul, Nat.mul_div_mul_right _ _ (p10 _)]
  have h2 := dg_div (n * 10 ^ 40 / k) (3 + dg n)
  rw [h] at h2
  omega
theorem root_dg {n k : Nat} {e : Int} (hn : n ≠ 0) (hd : dg n ≤ 18) (hk : k = 60 ∨ k = 61) (hek : (e - (k : Int)) % 2 = 0) : 18 < dg (isq (n * 10 ^ k)) := by
  obtain ⟨t1, t2, t3, t4⟩ := rt_facts e hn hd
  obtain ⟨_, i2⟩ := isq_facts t3 t4
  obtain ⟨j, hj⟩ : ∃ j : Nat, k = rtD n e + (j + j) := ⟨(k - rtD n e) / 2, by omega⟩
  have ej : n * 10 ^ k = rtN n e * (10 ^ j * 10 ^ j) := by
    unfold rtN
    rw [hj, ← Nat.pow_add, Nat.mul_assoc, ← Nat.pow_add]
  have h : isq (n * 10 ^ k) / 10 ^ j = isq (rtN n e) := by rw [ej, ← isq_div _ _ (p10 j), Nat.mul_div_cancel _ (Nat.mul_pos (p10 j) (p10 j))]
  have h2 := dg_div (isq (n * 10 ^ k)) j
  rw [h] at h2
  omega
theorem root_more (N j : Nat) : decide (isq N * isq N ≠ N) = (decide (isq (N * (10 ^ j * 10 ^ j)) * isq (N * (10 ^ j * 10 ^ j)) ≠ N * (10 ^ j * 10 ^ j)) || decide (isq (N * (10 ^ j * 10 ^ j)) % 10 ^ j ≠ 0)) := by
  have hp := p10 j
  rw [Bool.eq_iff_iff]
  simp only [Bool.or_eq_true, decide_eq_true_eq]
  constructor
  · intro h
    by_cases h1 : isq (N * (10 ^ j * 10 ^ j)) * isq (N * (10 ^ j * 10 ^ j)) = N * (10 ^ j * 10 ^ j)
    · right
      intro h2
      apply h
      obtain ⟨s, hs⟩ := Nat.dvd_of_mod_eq_zero h2
      rw [hs, Nat.mul_mul_mul_comm, Nat.mul_comm] at h1
      have h3 := Nat.eq_of_mul_eq_mul_right (Nat.mul_pos hp hp) h1
      rw [← h3, isq_sq]
    · exact Or.inl h1
  · intro h h0
    have e : N * (10 ^ j * 10 ^ j) = isq N * 10 ^ j * (isq N * 10 ^ j) := by rw [Nat.mul_mul_mul_comm, h0]
    rw [e, isq_sq, Nat.mul_mod_left] at h
    omega
/-- The root with sixty digits more is rounded as the program's. -/
theorem root_same {p n k : Nat} {how e : Int} (hp : p ≤ 18) (hn : n ≠ 0) (hd : dg n ≤ 18) (hk : k = 60 ∨ k = 61) (hek : (e - (k : Int)) % 2 = 0) (he : -900 ≤ e) :
    rRes p how false (sc (isq (n * 10 ^ k)) ((e - (k : Int)) / 2)) (decide (isq (n * 10 ^ k) * isq (n * 10 ^ k) ≠ n * 10 ^ k)) = rRes p how false (sc (isq (rtN n e)) (rtF n e)) (sMo n e) := by
  obtain ⟨t1, t2, t3, t4⟩ := rt_facts e hn hd
  obtain ⟨_, i2⟩ := isq_facts t3 t4
  obtain ⟨j, hj⟩ : ∃ j : Nat, k = rtD n e + (j + j) := ⟨(k - rtD n e) / 2, by omega⟩
  have ej : n * 10 ^ k = rtN n e * (10 ^ j * 10 ^ j) := by
    unfold rtN
    rw [hj, ← Nat.pow_add, Nat.mul_assoc, ← Nat.pow_add]
  rw [ej]
  unfold sMo
  generalize rtN n e = N at *
  refine more_same (j := j) (by omega) (by omega) ?_ (by omega) ?_
  · rw [← isq_div _ _ (p10 j), Nat.mul_div_cancel _ (Nat.mul_pos (p10 j) (p10 j))]
  · exact root_more N j
theorem zero_rRes {p : Nat} {how e : Int} {neg : Bool} : rRes p how neg (sc 0 e) false = ⟨0, 0, 0⟩ := by
  obtain ⟨a, b, c⟩ := round_zero (p := p) (how := how) (e := e) (neg := neg)
  unfold rRes
  rw [a, b, c]
end Go.Proofs.YtamkajckaomdlaaDoor
/- The reference's Mul and Div. Condition: the tables hold what their initialisers lay. -/
namespace Go.Proofs.YtamkajckaomdlaaDoor
open Go.ChangeShapes Go.WideShapes Go.ChangeAt Go.RowKit
attribute [local go_sem ↓] Go.wp_at_zero Go.wp_at_succ

set_option maxRecDepth 100000 in
set_option maxHeartbeats 16000000 in
theorem rmul_good (s how a e b f M E X : Int) (w : World) (ht : Tab w) (hc : ckR s how [(a, e), (b, f)] = 0) (hM : mRes s how a e b f = ⟨M, E, X⟩) :
    Calls Tryd.prog 20 #[.int .i64 s, .int .i64 how, .agg #[.int .i64 a, .int .i64 e], .agg #[.int .i64 b, .int .i64 f]] w fun x w' => x = .returned (.tuple #[.agg #[.int .i64 M, .int .i64 E], .int .i64 X]) ∧ Kept w w' := by
  have hlt := ht.lt
  have hlt0 := ht.lt0
  obtain ⟨hd, v1, v2⟩ := ck_facts hc
  obtain ⟨hs, a1, a2, a3, a4, a5⟩ := vld_facts v1
  obtain ⟨_, b1, b2, b3, b4, b5⟩ := vld_facts v2
  have hsz : isSz s = true := decide_eq_true hs
  have hck := fun w ht => refright s how a e b f w ht (by omega) (by omega) (by omega) (by omega)
  rw [hc] at hck
  have HC := Lib.hid hck
  have d1 := dg18 a1
  have d2 := dg18 b1
  have H1 := Lib.hid (fun w ht => Of_any a w ht (by omega) (by omega))
  have H2 := Lib.hid (fun w ht => Of_any b w ht (by omega) (by omega))
  have hr : rRes (pr s) how (decide (a < 0) != decide (b < 0)) (sc (mag a * mag b) (e + f)) false = ⟨M, E, X⟩ := by
    have hS : Same (pr s) (decide (a < 0) != decide (b < 0)) (sc (mag a * mag b) (e + f)) false (pv a e b f) := same_exact rfl
    rw [hS.eq how, ← hM]
    unfold mRes
    rw [okOr_zero _ hc]
  have hdm : dg (mag a * mag b) ≤ 10000 := by have := dg_mulle (mag a) (mag b); omega
  have H3 := Lib.hid (fun W (h : Tab W) u v hu hv => reftimes u v (mag a) (mag b) W h hu hv (by omega) (by omega))
  have H4 := Lib.hid (fun (v : Value) w ht h => gives_out2 hr (refRounded s how (decide (a < 0) != decide (b < 0)) false (mag a * mag b) (e + f) v w ht h hsz hd hdm (by omega) (by omega) (fun h => by cases h)))
  obtain ⟨na, hna⟩ : ∃ x, decide (a < 0) = x := ⟨_, rfl⟩
  obtain ⟨nb, hnb⟩ : ∃ x, decide (b < 0) = x := ⟨_, rfl⟩
  rw [hna, hnb, show (na != nb) = (!(na == nb)) from rfl] at H4
  clear hck hc v1 v2 a1 b1 hM hr hs hsz hd hdm d1 d2
  have q1 : IntKind.i64.wrap (e + f) = e + f := IntWalk.i64_in _ (by omega)
  go_enter Tryd.func20, Tryd.ntmps20
  go_upto_region 4 with (first | (go_at_call 48; (with_reducible refine (HC.out _ (by repeat' (first | (with_reducible assumption) | (with_reducible refine Tab.alloc ?_ _) | (with_reducible refine Tab.drew ?_) | (with_reducible refine Tab.drewN ?_ _) | (with_reducible refine Tab.setCell ?_ ?_ ?_ _) | omega | (simp; done) | (simp; omega)))).mono ?_); rintro e w1 ⟨rfl, hk1⟩; obtain ⟨hc1, hf1⟩ := bcell hk1.2; have ht1 := hk1.1; have hz1 := hk1.2.size; (try simp only [World.size_alloc] at hz1); (try simp only [sz_drew] at hz1); (try simp only [sz_drewN] at hz1); (try simp only [World.size_alloc] at hz1); (try simp only [sz_drew] at hc1 hf1); (try simp only [sz_drewN] at hc1 hf1); (try have hw1 : w.heap.size < w1.heap.size := by omega); (try have hv1 : w.heap.size + 1 < w1.heap.size := by omega); (try have hu1 : w.heap.size + 2 < w1.heap.size := by omega)))
  have hI := (Inv.three ht 29 [.int .i64 a, .int .i64 e] 29 [.int .i64 b, .int .i64 f] 29 [.int .i64 0, .int .i64 0]).call hk1
  clear hc1 hf1
  have HZ : Hid (Own w1 (w.heap.size + 1 + 1) 29 [.int .i64 0, .int .i64 0]) := Lib.hid (hI.own 2 _ rfl)
  have hJ : Inv w [(w.heap.size, 29, [.int .i64 a, .int .i64 e]), (w.heap.size + 1, 29, [.int .i64 b, .int .i64 f])] w1 := hI.init (bs := [_, _])
  (have z0 : w1.cell? ⟨w.heap.size + 1 + 1, 0, none⟩ = some (.int .i64 0) := (hI.own 2 _ rfl).cell 0; have z1 : w1.cell? ⟨w.heap.size + 1 + 1, 1, none⟩ = some (.int .i64 0) := (hI.own 2 _ rfl).cell 1; have zf := fun i => (hI.own 2 _ rfl).frozen i; have zl : w.heap.size + 1 + 1 < w1.heap.size := (hI.own 2 _ rfl).lt)
  clear hI
  go_region_held3 (fun w' => Inv w [(w.heap.size, 29, [.int .i64 a, .int .i64 e]), (w.heap.size + 1, 29, [.int .i64 b, .int .i64 f])] w' ∧ Tab w' ∧ w'.cell? ⟨w.heap.size, 0, none⟩ = some (.int .i64 a) ∧ w'.cell? ⟨w.heap.size, 1, none⟩ = some (.int .i64 e) ∧ w'.cell? ⟨w.heap.size + 1, 0, none⟩ = some (.int .i64 b) ∧ w'.cell? ⟨w.heap.size + 1, 1, none⟩ = some (.int .i64 f))
    ((refine reals_pack ?_; repeat' (first | (with_reducible assumption) | (with_reducible refine Inv.drew ?_) | (with_reducible refine Inv.alloc ?_ _) | (with_reducible refine Inv.call ?_ (by assumption)) | (with_reducible refine Inv.far ?_ ?_ ?_ ?_ ?_ _) | omega | (simp; done) | (simp; omega))))
    (first | (go_at_call 43; (with_reducible refine (H1.out _ (by repeat' (first | (with_reducible assumption) | (with_reducible refine Tab.alloc ?_ _) | (with_reducible refine Tab.drew ?_) | (with_reducible refine Tab.drewN ?_ _) | (with_reducible refine Tab.setCell ?_ ?_ ?_ _) | omega | (simp; done) | (simp; omega)))).mono ?_); rintro e w2 ⟨v2, rfl, hs2, hk2, -⟩; obtain ⟨hc2, hf2⟩ := bcell hk2.2; have ht2 := hk2.1; have hz2 := hk2.2.size; (try simp only [World.size_alloc] at hz2); (try simp only [sz_drew] at hz2); (try simp only [sz_drewN] at hz2); (try simp only [World.size_alloc] at hz2); (try simp only [sz_drew] at hc2 hf2); (try simp only [sz_drewN] at hc2 hf2); (try have hw2 : w.heap.size < w2.heap.size := by omega); (try have hv2 : w.heap.size + 1 < w2.heap.size := by omega); (try have hu2 : w.heap.size + 2 < w2.heap.size := by omega)) | (go_at_call 43; (with_reducible refine (H2.out _ (by repeat' (first | (with_reducible assumption) | (with_reducible refine Tab.alloc ?_ _) | (with_reducible refine Tab.drew ?_) | (with_reducible refine Tab.drewN ?_ _) | (with_reducible refine Tab.setCell ?_ ?_ ?_ _) | omega | (simp; done) | (simp; omega)))).mono ?_); rintro e w3 ⟨v3, rfl, hs3, hk3, -⟩; obtain ⟨hc3, hf3⟩ := bcell hk3.2; have ht3 := hk3.1; have hz3 := hk3.2.size; (try simp only [World.size_alloc] at hz3); (try simp only [sz_drew] at hz3); (try simp only [sz_drewN] at hz3); (try simp only [World.size_alloc] at hz3); (try simp only [sz_drew] at hc3 hf3); (try simp only [sz_drewN] at hc3 hf3); (try have hw3 : w.heap.size < w3.heap.size := by omega); (try have hv3 : w.heap.size + 1 < w3.heap.size := by omega); (try have hu3 : w.heap.size + 2 < w3.heap.size := by omega)) | (go_at_call 55; (with_reducible refine Calls.mono (H3.out _ (by repeat' (first | (with_reducible assumption) | (with_reducible refine Tab.alloc ?_ _) | (with_reducible refine Tab.drew ?_) | (with_reducible refine Tab.drewN ?_ _) | (with_reducible refine Tab.setCell ?_ ?_ ?_ _) | omega | (simp; done) | (simp; omega))) _ _ ?_ ?_) ?_); (focus (repeat' (first | (with_reducible assumption) | (with_reducible refine Sl.alloc ?_ _) | (with_reducible refine Sl.drew ?_) | (with_reducible refine Sl.drewN ?_ _) | (with_reducible refine Sl.call ?_ (by assumption))))); (focus (repeat' (first | (with_reducible assumption) | (with_reducible refine Sl.alloc ?_ _) | (with_reducible refine Sl.drew ?_) | (with_reducible refine Sl.drewN ?_ _) | (with_reducible refine Sl.call ?_ (by assumption))))); rintro e w4 ⟨v4, rfl, hs4, hk4⟩; obtain ⟨p4, q4, r4, rfl, -⟩ := hs4.form; obtain ⟨hc4, hf4⟩ := bcell hk4.2; have ht4 := hk4.1; have hz4 := hk4.2.size; (try simp only [World.size_alloc] at hz4); (try simp only [sz_drew] at hz4); (try simp only [sz_drewN] at hz4); (try simp only [World.size_alloc] at hz4); (try simp only [sz_drew] at hc4 hf4); (try simp only [sz_drewN] at hc4 hf4); (try have hw4 : w.heap.size < w4.heap.size := by omega); (try have hv4 : w.heap.size + 1 < w4.heap.size := by omega); (try have hu4 : w.heap.size + 2 < w4.heap.size := by omega)) | (go_at_call 50; (with_reducible refine Calls.mono (H4.out _ _ (by repeat' (first | (with_reducible assumption) | (with_reducible refine Tab.alloc ?_ _) | (with_reducible refine Tab.drew ?_) | (with_reducible refine Tab.drewN ?_ _) | (with_reducible refine Tab.setCell ?_ ?_ ?_ _) | omega | (simp; done) | (simp; omega))) ?_) ?_); (focus (repeat' (first | (with_reducible assumption) | (with_reducible refine Sl.alloc ?_ _) | (with_reducible refine Sl.drew ?_) | (with_reducible refine Sl.drewN ?_ _) | (with_reducible refine Sl.call ?_ (by assumption))))); rintro e w5 ⟨rfl, hk5⟩; obtain ⟨hc5, hf5⟩ := bcell hk5.2; have ht5 := hk5.1; have hz5 := hk5.2.size; (try simp only [World.size_alloc] at hz5); (try simp only [sz_drew] at hz5); (try simp only [sz_drewN] at hz5); (try simp only [World.size_alloc] at hz5); (try simp only [sz_drew] at hc5 hf5); (try simp only [sz_drewN] at hc5 hf5); (try have hw5 : w.heap.size < w5.heap.size := by omega); (try have hv5 : w.heap.size + 1 < w5.heap.size := by omega); (try have hu5 : w.heap.size + 2 < w5.heap.size := by omega)))
  clear q1
  go_wp2_with fail
  have hF := (((((HZ.out.drew.call hk2).call hk3).call hk4).call hk5).put 0 (.int .i64 M)).put 1 (.int .i64 E)
  refine bodyPost_ret (ret_own_tmp rfl hF rfl Tryd.underlying29 rfl (by kernel_rfl)) rfl ?_
  exact ⟨rfl, (by repeat' (first | (with_reducible assumption) | (with_reducible exact Kept.refl ht) | (with_reducible refine Kept.alloc ?_ _) | (with_reducible refine Kept.drew ?_) | (with_reducible refine Kept.drewN ?_ _) | (with_reducible refine Kept.setCell ?_ ?_ _ ?_ ?_) | (with_reducible refine Kept.trans ?_ (by assumption)) | omega | (simp; done) | (simp; omega)))⟩
set_option maxRecDepth 100000 in
set_option maxHeartbeats 16000000 in
theorem rdiv_good (s how a e b f M E X : Int) (w : World) (ht : Tab w) (hc : ckR s how [(a, e), (b, f)] = 0) (hb0 : ¬ b = 0) (hM : dRes s how a e b f = ⟨M, E, X⟩) :
    Calls Tryd.prog 22 #[.int .i64 s, .int .i64 how, .agg #[.int .i64 a, .int .i64 e], .agg #[.int .i64 b, .int .i64 f]] w fun x w' => x = .returned (.tuple #[.agg #[.int .i64 M, .int .i64 E], .int .i64 X]) ∧ Kept w w' := by
  have hlt := ht.lt
  have hlt0 := ht.lt0
  obtain ⟨hd, v1, v2⟩ := ck_facts hc
  obtain ⟨hs, a1, a2, a3, a4, a5⟩ := vld_facts v1
  obtain ⟨_, b1, b2, b3, b4, b5⟩ := vld_facts v2
  have hsz : isSz s = true := decide_eq_true hs
  have hck := fun w ht => refright s how a e b f w ht (by omega) (by omega) (by omega) (by omega)
  rw [hc] at hck
  have HC := Lib.hid hck
  have d1 := dg18 a1
  have d2 := dg18 b1
  have H1 := Lib.hid (fun w ht => Of_any a w ht (by omega) (by omega))
  have H2 := Lib.hid (fun w ht => Of_any b w ht (by omega) (by omega))
  have hbm : 0 < mag b := by unfold mag; omega
  have hr : rRes (pr s) how (decide (a < 0) != decide (b < 0)) (sc (mag a * 10 ^ 40 / mag b) (e - f - 40)) (decide (mag a * 10 ^ 40 % mag b ≠ 0)) = ⟨M, E, X⟩ := by
    rw [← hM]
    unfold dRes
    rw [okOr_zero _ hc, if_neg hb0]
    by_cases ha0 : a = 0
    · rw [if_pos ha0]
      subst ha0
      rw [show mag 0 = 0 from rfl, Nat.zero_mul, Nat.zero_div, Nat.zero_mod]
      exact zero_rRes
    · rw [if_neg ha0]
      exact div_same (pr18 s) (by unfold mag; omega) d1 (by omega) b1 (by omega)
  have hmo : mag a * 10 ^ 40 % mag b ≠ 0 → 18 < dg (mag a * 10 ^ 40 / mag b) := fun h => by
    by_cases ha0 : a = 0
    · subst ha0
      exact absurd (by rw [show mag 0 = 0 from rfl, Nat.zero_mul, Nat.zero_mod]) h
    · exact div_dg (by unfold mag; omega) d1 (by omega) b1
  have hd40 : dg (mag a * 10 ^ 40) ≤ 80 := by
    have h1 := dg_mulle (mag a) (10 ^ 40)
    have h2 : dg (10 ^ 40) ≤ 41 := (dg_iff _ _).2 (Nat.pow_lt_pow_right (by omega) (by omega))
    omega
  have hdQ : dg (mag a * 10 ^ 40 / mag b) ≤ 80 := Nat.le_trans (dg_mono (Nat.div_le_self _ _)) hd40
  obtain ⟨lr, hlr⟩ : ∃ lr, (ds (mag a * 10 ^ 40 % mag b)).length = lr := ⟨_, rfl⟩
  have H3 : Hid (∀ W, Tab W → ∀ u, Sl W u (ds (mag a)) → Calls Tryd.prog 58 #[u, .int .i64 40] W fun e w' => ∃ v', e = .returned v' ∧ Sl w' v' (ds (mag a * 10 ^ 40)) ∧ Kept W w') := Lib.hid (fun W h u hu => refshift u (mag a) 40 W h hu (by omega) (by omega))
  have H5 : Hid (∀ W, Tab W → ∀ u v, Sl W u (ds (mag a * 10 ^ 40)) → Sl W v (ds (mag b)) → Calls Tryd.prog 57 #[u, v] W fun x w' => ∃ b1 o1 n1 c1 b2 o2 c2 : Nat, x = .returned (.tuple #[.slice (some ⟨b1, o1, none⟩) n1 c1, .slice (some ⟨b2, o2, none⟩) lr c2]) ∧ Sl w' (.slice (some ⟨b1, o1, none⟩) n1 c1) (ds (mag a * 10 ^ 40 / mag b)) ∧ Kept W w') := Lib.hid (fun W h u v hu hv => by
    refine (refdivide u v _ _ W h hu hv (by omega) (by omega) hbm).mono fun x w' ⟨q, r, hx, hq, hr, hk⟩ => ?_
    obtain ⟨b1, o1, c1, rfl, _⟩ := hq.form
    obtain ⟨b2, o2, c2, rfl, _⟩ := hr.form
    rw [hlr] at hx
    exact ⟨_, _, _, _, _, _, _, hx, hq, hk⟩)
  have H4 := Lib.hid (fun (v : Value) w ht h => gives_out2 hr (refRounded s how (decide (a < 0) != decide (b < 0)) (decide (mag a * 10 ^ 40 % mag b ≠ 0)) (mag a * 10 ^ 40 / mag b) (e - f - 40) v w ht h hsz hd (by omega) (by omega) (by omega) (fun h => hmo (of_decide_eq_true h))))
  obtain ⟨na, hna⟩ : ∃ x, decide (a < 0) = x := ⟨_, rfl⟩
  obtain ⟨nb, hnb⟩ : ∃ x, decide (b < 0) = x := ⟨_, rfl⟩
  rw [hna, hnb, show (na != nb) = (!(na == nb)) from rfl] at H4
  have hb00 : (b == 0) = false := by simpa using hb0
  have HP : Hid (∀ w', Inv w [(w.heap.size, 29, [.int .i64 a, .int .i64 e]), (w.heap.size + 1, 29, [.int .i64 b, .int .i64 f]), (w.heap.size + 1 + 1, 29, [.int .i64 0, .int .i64 0])] w' → Inv w [(w.heap.size, 29, [.int .i64 a, .int .i64 e]), (w.heap.size + 1, 29, [.int .i64 b, .int .i64 f]), (w.heap.size + 1 + 1, 29, [.int .i64 0, .int .i64 0])] w' ∧ Tab w' ∧ w'.cell? ⟨w.heap.size, 0, none⟩ = some (.int .i64 a) ∧ w'.cell? ⟨w.heap.size, 1, none⟩ = some (.int .i64 e) ∧ w'.cell? ⟨w.heap.size + 1, 0, none⟩ = some (.int .i64 b) ∧ w'.cell? ⟨w.heap.size + 1, 1, none⟩ = some (.int .i64 f)) := Lib.hid (fun w' h => ⟨h, h.kept.1, (h.own 0 _ rfl).cell 0, (h.own 0 _ rfl).cell 1, (h.own 1 _ rfl).cell 0, (h.own 1 _ rfl).cell 1⟩)
  generalize mag a * 10 ^ 40 / mag b = Q at *
  generalize mag a * 10 ^ 40 % mag b = R at *
  have hcs : (R = 0 ∧ lr = 0) ∨ (R ≠ 0 ∧ 0 < lr) := by
    rw [← hlr, ds_len]
    by_cases h : R = 0
    · left; subst h; exact ⟨rfl, dg_zero⟩
    · exact Or.inr ⟨h, by have := dg_ne h; omega⟩
  clear hck hc v1 v2 a1 b1 hM hr hs hsz hd d1 d2 hmo hd40 hdQ hlr hbm hb0
  rcases hcs with ⟨hR, rfl⟩ | ⟨hR, hlr0⟩
  all_goals
    (first | rw [decide_eq_false (by rw [hR]; decide)] at H4 | rw [decide_eq_true hR] at H4)
    clear hR
    go_enter Tryd.func22, Tryd.ntmps22
    go_upto_region 4 with (first | (go_at_call 48; (with_reducible refine (HC.out _ (by repeat' (first | (with_reducible assumption) | (with_reducible refine Tab.alloc ?_ _) | (with_reducible refine Tab.drew ?_) | (with_reducible refine Tab.drewN ?_ _) | (with_reducible refine Tab.setCell ?_ ?_ ?_ _) | omega | (simp; done) | (simp; omega)))).mono ?_); rintro e w1 ⟨rfl, hk1⟩; obtain ⟨hc1, hf1⟩ := bcell hk1.2; have ht1 := hk1.1; have hz1 := hk1.2.size; (try simp only [World.size_alloc] at hz1); (try simp only [sz_drew] at hz1); (try simp only [sz_drewN] at hz1); (try simp only [World.size_alloc] at hz1); (try simp only [sz_drew] at hc1 hf1); (try simp only [sz_drewN] at hc1 hf1); (try have hw1 : w.heap.size < w1.heap.size := by omega); (try have hv1 : w.heap.size + 1 < w1.heap.size := by omega); (try have hu1 : w.heap.size + 2 < w1.heap.size := by omega)))
    have hI := (Inv.three ht 29 [.int .i64 a, .int .i64 e] 29 [.int .i64 b, .int .i64 f] 29 [.int .i64 0, .int .i64 0]).call hk1
    clear hc1 hf1
    (have y0 : w1.cell? ⟨w.heap.size + 1, 0, none⟩ = some (.int .i64 b) := (hI.own 1 _ rfl).cell 0; have y1 : w1.cell? ⟨w.heap.size + 1, 1, none⟩ = some (.int .i64 f) := (hI.own 1 _ rfl).cell 1; have yf := fun i => (hI.own 1 _ rfl).frozen i; have yl : w.heap.size + 1 < w1.heap.size := (hI.own 1 _ rfl).lt)
    go_upto_region 6 with fail
    clear y0 y1 yf yl
    go_region_held3 (fun w' => Inv w [(w.heap.size, 29, [.int .i64 a, .int .i64 e]), (w.heap.size + 1, 29, [.int .i64 b, .int .i64 f]), (w.heap.size + 1 + 1, 29, [.int .i64 0, .int .i64 0])] w' ∧ Tab w' ∧ w'.cell? ⟨w.heap.size, 0, none⟩ = some (.int .i64 a) ∧ w'.cell? ⟨w.heap.size, 1, none⟩ = some (.int .i64 e) ∧ w'.cell? ⟨w.heap.size + 1, 0, none⟩ = some (.int .i64 b) ∧ w'.cell? ⟨w.heap.size + 1, 1, none⟩ = some (.int .i64 f))
      ((refine HP.out _ ?_; repeat' (first | (with_reducible assumption) | (with_reducible refine Inv.drew ?_) | (with_reducible refine Inv.alloc ?_ _) | (with_reducible refine Inv.call ?_ (by assumption)) | (with_reducible refine Inv.far ?_ ?_ ?_ ?_ ?_ _) | omega | (simp; done) | (simp; omega))))
      (first | (go_at_call 43; (with_reducible refine (H1.out _ (by repeat' (first | (with_reducible assumption) | (with_reducible refine Tab.alloc ?_ _) | (with_reducible refine Tab.drew ?_) | (with_reducible refine Tab.drewN ?_ _) | (with_reducible refine Tab.setCell ?_ ?_ ?_ _) | omega | (simp; done) | (simp; omega)))).mono ?_); rintro e w2 ⟨v2, rfl, hs2, hk2, -⟩; obtain ⟨hc2, hf2⟩ := bcell hk2.2; have ht2 := hk2.1; have hz2 := hk2.2.size; (try simp only [World.size_alloc] at hz2); (try simp only [sz_drew] at hz2); (try simp only [sz_drewN] at hz2); (try simp only [World.size_alloc] at hz2); (try simp only [sz_drew] at hc2 hf2); (try simp only [sz_drewN] at hc2 hf2); (try have hw2 : w.heap.size < w2.heap.size := by omega); (try have hv2 : w.heap.size + 1 < w2.heap.size := by omega); (try have hu2 : w.heap.size + 2 < w2.heap.size := by omega)) | (go_at_call 43; (with_reducible refine (H2.out _ (by repeat' (first | (with_reducible assumption) | (with_reducible refine Tab.alloc ?_ _) | (with_reducible refine Tab.drew ?_) | (with_reducible refine Tab.drewN ?_ _) | (with_reducible refine Tab.setCell ?_ ?_ ?_ _) | omega | (simp; done) | (simp; omega)))).mono ?_); rintro e w3 ⟨v3, rfl, hs3, hk3, -⟩; obtain ⟨hc3, hf3⟩ := bcell hk3.2; have ht3 := hk3.1; have hz3 := hk3.2.size; (try simp only [World.size_alloc] at hz3); (try simp only [sz_drew] at hz3); (try simp only [sz_drewN] at hz3); (try simp only [World.size_alloc] at hz3); (try simp only [sz_drew] at hc3 hf3); (try simp only [sz_drewN] at hc3 hf3); (try have hw3 : w.heap.size < w3.heap.size := by omega); (try have hv3 : w.heap.size + 1 < w3.heap.size := by omega); (try have hu3 : w.heap.size + 2 < w3.heap.size := by omega)) | (go_at_call 58; (with_reducible refine Calls.mono (H3.out _ (by repeat' (first | (with_reducible assumption) | (with_reducible refine Tab.alloc ?_ _) | (with_reducible refine Tab.drew ?_) | (with_reducible refine Tab.drewN ?_ _) | (with_reducible refine Tab.setCell ?_ ?_ ?_ _) | omega | (simp; done) | (simp; omega))) _ ?_) ?_); (focus (repeat' (first | (with_reducible assumption) | (with_reducible refine Sl.alloc ?_ _) | (with_reducible refine Sl.drew ?_) | (with_reducible refine Sl.drewN ?_ _) | (with_reducible refine Sl.call ?_ (by assumption))))); rintro e w4 ⟨v4, rfl, hs4, hk4⟩; obtain ⟨hc4, hf4⟩ := bcell hk4.2; have ht4 := hk4.1; have hz4 := hk4.2.size; (try simp only [World.size_alloc] at hz4); (try simp only [sz_drew] at hz4); (try simp only [sz_drewN] at hz4); (try simp only [World.size_alloc] at hz4); (try simp only [sz_drew] at hc4 hf4); (try simp only [sz_drewN] at hc4 hf4); (try have hw4 : w.heap.size < w4.heap.size := by omega); (try have hv4 : w.heap.size + 1 < w4.heap.size := by omega); (try have hu4 : w.heap.size + 2 < w4.heap.size := by omega)) | (go_at_call 57; (with_reducible refine Calls.mono (H5.out _ (by repeat' (first | (with_reducible assumption) | (with_reducible refine Tab.alloc ?_ _) | (with_reducible refine Tab.drew ?_) | (with_reducible refine Tab.drewN ?_ _) | (with_reducible refine Tab.setCell ?_ ?_ ?_ _) | omega | (simp; done) | (simp; omega))) _ _ ?_ ?_) ?_); (focus (repeat' (first | (with_reducible assumption) | (with_reducible refine Sl.alloc ?_ _) | (with_reducible refine Sl.drew ?_) | (with_reducible refine Sl.drewN ?_ _) | (with_reducible refine Sl.call ?_ (by assumption))))); (focus (repeat' (first | (with_reducible assumption) | (with_reducible refine Sl.alloc ?_ _) | (with_reducible refine Sl.drew ?_) | (with_reducible refine Sl.drewN ?_ _) | (with_reducible refine Sl.call ?_ (by assumption))))); rintro e w5 ⟨p5, q5, n5, r5, i5, j5, k5, rfl, hs5, hk5⟩; obtain ⟨hc5, hf5⟩ := bcell hk5.2; have ht5 := hk5.1; have hz5 := hk5.2.size; (try simp only [World.size_alloc] at hz5); (try simp only [sz_drew] at hz5); (try simp only [sz_drewN] at hz5); (try simp only [World.size_alloc] at hz5); (try simp only [sz_drew] at hc5 hf5); (try simp only [sz_drewN] at hc5 hf5); (try have hw5 : w.heap.size < w5.heap.size := by omega); (try have hv5 : w.heap.size + 1 < w5.heap.size := by omega); (try have hu5 : w.heap.size + 2 < w5.heap.size := by omega)))
    clear hc2 hf2 hc3 hf3 hc4 hf4 hc5 hf5
    have hI5 : Inv w [(w.heap.size, 29, [.int .i64 a, .int .i64 e]), (w.heap.size + 1, 29, [.int .i64 b, .int .i64 f]), (w.heap.size + 1 + 1, 29, [.int .i64 0, .int .i64 0])] w5 := by repeat' (first | (with_reducible assumption) | (with_reducible refine Inv.drew ?_) | (with_reducible refine Inv.alloc ?_ _) | (with_reducible refine Inv.call ?_ (by assumption)) | (with_reducible refine Inv.far ?_ ?_ ?_ ?_ ?_ _) | omega | (simp; done) | (simp; omega))
    obtain ⟨-, -, x0, x1, y0, y1⟩ := HP.out _ hI5
    (have z0 : w5.cell? ⟨w.heap.size + 1 + 1, 0, none⟩ = some (.int .i64 0) := (hI5.own 2 _ rfl).cell 0; have z1 : w5.cell? ⟨w.heap.size + 1 + 1, 1, none⟩ = some (.int .i64 0) := (hI5.own 2 _ rfl).cell 1; have zf := fun i => (hI5.own 2 _ rfl).frozen i; have zl : w.heap.size + 1 + 1 < w5.heap.size := (hI5.own 2 _ rfl).lt)
    have HZ : Hid (Own w5 (w.heap.size + 1 + 1) 29 [.int .i64 0, .int .i64 0]) := Lib.hid (hI5.own 2 _ rfl)
    have hw5 := hI5.kept
    have hx5 := (hI5.own 0 _ rfl).lt
    have hy5 := (hI5.own 1 _ rfl).lt
    go_wp2_with (first | (go_at_call 50; (with_reducible refine Calls.mono (H4.out _ _ (by repeat' (first | (with_reducible assumption) | (with_reducible refine Tab.alloc ?_ _) | (with_reducible refine Tab.drew ?_) | (with_reducible refine Tab.drewN ?_ _) | (with_reducible refine Tab.setCell ?_ ?_ ?_ _) | omega | (simp; done) | (simp; omega))) ?_) ?_); (focus (repeat' (first | (with_reducible assumption) | (with_reducible refine Sl.alloc ?_ _) | (with_reducible refine Sl.drew ?_) | (with_reducible refine Sl.drewN ?_ _) | (with_reducible refine Sl.call ?_ (by assumption))))); rintro e w6 ⟨rfl, hk6⟩; obtain ⟨hc6, hf6⟩ := bcell hk6.2; have ht6 := hk6.1; have hz6 := hk6.2.size; (try simp only [World.size_alloc] at hz6); (try simp only [sz_drew] at hz6); (try simp only [sz_drewN] at hz6); (try simp only [World.size_alloc] at hz6); (try simp only [sz_drew] at hc6 hf6); (try simp only [sz_drewN] at hc6 hf6); (try have hw6 : w.heap.size < w6.heap.size := by omega); (try have hv6 : w.heap.size + 1 < w6.heap.size := by omega); (try have hu6 : w.heap.size + 2 < w6.heap.size := by omega)))
    have hF := ((HZ.out.call hk6).put 0 (.int .i64 M)).put 1 (.int .i64 E)
    refine bodyPost_ret (ret_own_tmp rfl hF rfl Tryd.underlying29 rfl (by kernel_rfl)) rfl ?_
    exact ⟨rfl, (by repeat' (first | (with_reducible assumption) | (with_reducible exact Kept.refl ht) | (with_reducible refine Kept.alloc ?_ _) | (with_reducible refine Kept.drew ?_) | (with_reducible refine Kept.drewN ?_ _) | (with_reducible refine Kept.setCell ?_ ?_ _ ?_ ?_) | (with_reducible refine Kept.trans ?_ (by assumption)) | omega | (simp; done) | (simp; omega)))⟩
set_option maxRecDepth 100000 in
set_option maxHeartbeats 16000000 in
theorem rdiv_zero (s how a e b f : Int) (w : World) (ht : Tab w) (hc : ckR s how [(a, e), (b, f)] = 0) (hb0 : b = 0) :
    Calls Tryd.prog 22 #[.int .i64 s, .int .i64 how, .agg #[.int .i64 a, .int .i64 e], .agg #[.int .i64 b, .int .i64 f]] w fun x w' => x = .returned (.tuple #[.agg #[.int .i64 0, .int .i64 0], .int .i64 11]) ∧ Kept w w' := by
  have hlt := ht.lt
  have hlt0 := ht.lt0
  obtain ⟨_, v1, v2⟩ := ck_facts hc
  obtain ⟨_, _, _, _, a4, a5⟩ := vld_facts v1
  have hck := fun w ht => refright s how a e b f w ht (by omega) (by omega) (by omega) (by omega)
  rw [hc] at hck
  subst hb0
  have HC := Lib.hid hck
  clear hck hc v1 v2
  go_enter Tryd.func22, Tryd.ntmps22
  go_upto_region 4 with (first | (go_at_call 48; (with_reducible refine (HC.out _ (by repeat' (first | (with_reducible assumption) | (with_reducible refine Tab.alloc ?_ _) | (with_reducible refine Tab.drew ?_) | (with_reducible refine Tab.drewN ?_ _) | (with_reducible refine Tab.setCell ?_ ?_ ?_ _) | omega | (simp; done) | (simp; omega)))).mono ?_); rintro e w1 ⟨rfl, hk1⟩; obtain ⟨hc1, hf1⟩ := bcell hk1.2; have ht1 := hk1.1; have hz1 := hk1.2.size; (try simp only [World.size_alloc] at hz1); (try simp only [sz_drew] at hz1); (try simp only [sz_drewN] at hz1); (try simp only [World.size_alloc] at hz1); (try simp only [sz_drew] at hc1 hf1); (try simp only [sz_drewN] at hc1 hf1); (try have hw1 : w.heap.size < w1.heap.size := by omega); (try have hv1 : w.heap.size + 1 < w1.heap.size := by omega); (try have hu1 : w.heap.size + 2 < w1.heap.size := by omega)))
  have hI := (Inv.three ht 29 [.int .i64 a, .int .i64 e] 29 [.int .i64 0, .int .i64 f] 29 [.int .i64 0, .int .i64 0]).call hk1
  clear hc1 hf1
  have HZ : Hid (Own w1 (w.heap.size + 1 + 1) 29 [.int .i64 0, .int .i64 0]) := Lib.hid (hI.own 2 _ rfl)
  (have y0 : w1.cell? ⟨w.heap.size + 1, 0, none⟩ = some (.int .i64 0) := (hI.own 1 _ rfl).cell 0; have y1 : w1.cell? ⟨w.heap.size + 1, 1, none⟩ = some (.int .i64 f) := (hI.own 1 _ rfl).cell 1; have yf := fun i => (hI.own 1 _ rfl).frozen i; have yl : w.heap.size + 1 < w1.heap.size := (hI.own 1 _ rfl).lt)
  (have z0 : w1.cell? ⟨w.heap.size + 1 + 1, 0, none⟩ = some (.int .i64 0) := (hI.own 2 _ rfl).cell 0; have z1 : w1.cell? ⟨w.heap.size + 1 + 1, 1, none⟩ = some (.int .i64 0) := (hI.own 2 _ rfl).cell 1; have zf := fun i => (hI.own 2 _ rfl).frozen i; have zl : w.heap.size + 1 + 1 < w1.heap.size := (hI.own 2 _ rfl).lt)
  clear hI
  go_wp2
  have hF := (HZ.out.put 0 (.int .i64 0)).put 1 (.int .i64 0)
  refine bodyPost_ret (ret_own_tmp rfl hF rfl Tryd.underlying29 rfl (by kernel_rfl)) rfl ?_
  exact ⟨rfl, (by repeat' (first | (with_reducible assumption) | (with_reducible exact Kept.refl ht) | (with_reducible refine Kept.alloc ?_ _) | (with_reducible refine Kept.drew ?_) | (with_reducible refine Kept.drewN ?_ _) | (with_reducible refine Kept.setCell ?_ ?_ _ ?_ ?_) | (with_reducible refine Kept.trans ?_ (by assumption)) | omega | (simp; done) | (simp; omega)))⟩
theorem rmul_any (s how a e b f : Int) (w : World) (ht : Tab w) (la : -9223372036854775808 ≤ a) (ha : a ≤ 9223372036854775807) (lb : -9223372036854775808 ≤ b) (hb : b ≤ 9223372036854775807) :
    Calls Tryd.prog 20 #[.int .i64 s, .int .i64 how, .agg #[.int .i64 a, .int .i64 e], .agg #[.int .i64 b, .int .i64 f]] w (Gives (mRes s how a e b f) w) := by
  rcases ck_cases (c := ckR s how [(a, e), (b, f)]) with hc | hc
  · exact gives_mk _ _ _ (rmul_good s how a e b f _ _ _ w ht hc rfl)
  · unfold mRes
    rw [okOr_ne _ hc]
    exact gives_mk _ _ _ (rmul_bad s how a e b f _ w ht la ha lb hb rfl hc)
theorem rdiv_any (s how a e b f : Int) (w : World) (ht : Tab w) (la : -9223372036854775808 ≤ a) (ha : a ≤ 9223372036854775807) (lb : -9223372036854775808 ≤ b) (hb : b ≤ 9223372036854775807) :
    Calls Tryd.prog 22 #[.int .i64 s, .int .i64 how, .agg #[.int .i64 a, .int .i64 e], .agg #[.int .i64 b, .int .i64 f]] w (Gives (dRes s how a e b f) w) := by
  rcases ck_cases (c := ckR s how [(a, e), (b, f)]) with hc | hc
  · by_cases hb0 : b = 0
    · unfold dRes
      rw [okOr_zero _ hc, if_pos hb0]
      exact gives_mk _ _ _ (rdiv_zero s how a e b f w ht hc hb0)
    · exact gives_mk _ _ _ (rdiv_good s how a e b f _ _ _ w ht hc hb0 rfl)
  · unfold dRes
    rw [okOr_ne _ hc]
    exact gives_mk _ _ _ (rdiv_bad s how a e b f _ w ht la ha lb hb rfl hc)
end Go.Proofs.YtamkajckaomdlaaDoor
