/- The reference's root. Condition: the tables hold what their initialisers lay. -/
import Derived.Test.YtanfhlkfmmglhaaDoorGRt
import Derived.Deep.RegionLawGrows
import Derived.Deep.RegionHeld3
import Derived.IntWalk
namespace Go.Proofs.YtanfhlkfmmglhaaDoor
open Go.ChangeShapes Go.WideShapes Go.ChangeAt Go.RowKit
attribute [local go_sem ↓] Go.wp_at_zero Go.wp_at_succ

/-- append to a literal, as a step of a region that draws. -/
theorem stepL {ops : Array Oper} {o : Oper} {a : Act} {K : Act → World → Prop} {Q : Exit → Act → World → Prop} {E : Prop} {W : World} (hgd : o.guard = none) (s x : Operand)
    (ho : o.op = .call { callee := .builtin .append, args := #[s, x], argTypes := #[51, 51] })
    (B : Nat) (u : Value) (l M : List Int) (hs : a.eval s = .slice (some ⟨B, 0, none⟩) l.length l.length) (hx : a.eval x = u) (hl : l.length + M.length ≤ 1000000) (hlit : Sl W (.slice (some ⟨B, 0, none⟩) l.length l.length) l) (hsrc : Sl W u M)
    (h : ∀ v' w', Sl w' v' (l ++ M) → Below W.heap.size W w' → K (a.put o.dst v') w') :
    if Region.wanted o (yielded ops a.tmps) = true then Oper.wp Tryd.prog o a W K Q else E := by
  obtain ⟨i0, hi, hz0, hz1, hz2⟩ := info_parts info_int
  obtain ⟨b, off, c, rfl, hc, hm, hb, hg⟩ := hsrc
  cases M with
  | nil =>
    refine step_append_room hgd s x _ ho _ i0 1 Tryd.underlying51 hi hz1 B 0 l.length l.length hs ⟨b, off, none⟩ 0 c [] hx rfl (fun j u hj => by simp at hj) (fun u hu => by cases hu) (Nat.le_refl _) (fun j hj => absurd hj (Nat.not_lt_zero _)) ?_
    refine h _ _ ?_ (Below.refl _ _)
    rw [List.append_nil]
    exact hlit
  | cons d M =>
    have lc := hlit.cells
    refine step_append_grows hgd s x _ ho _ i0 (.int .i64 0) 1 8 Tryd.underlying51 hi hz0 hz1 hz2 rfl (by decide) (some ⟨B, 0, none⟩) l.length l.length (l.map (Value.int .i64)) hs (fun h => by cases h) (by simp) ?_ ⟨b, off, none⟩ (d :: M).length c ((d :: M).map (Value.int .i64)) hx (by simp) ?_ ?_ (by simp) (by unfold maxLen; omega) (by omega) ?_
    · intro b' hb' j u hj
      obtain rfl := Option.some.inj hb'
      rw [List.getElem?_map] at hj
      cases hm : l[j]? with
      | none => rw [hm] at hj; cases hj
      | some d' =>
        rw [hm] at hj
        obtain rfl := Option.some.inj hj
        have := lc j d' hm
        by_cases h0 : j = 0
        · subst h0; simpa [Addr.add] using this
        · simpa [Addr.add, h0] using this
    · intro j u hj
      rw [List.getElem?_map] at hj
      cases hm : (d :: M)[j]? with
      | none => rw [hm] at hj; cases hj
      | some d' =>
        rw [hm] at hj
        obtain rfl := Option.some.inj hj
        have := hg j d' hm
        by_cases h0 : j = 0
        · subst h0; simpa [Addr.add] using this
        · simpa [Addr.add, h0] using this
    · intro u hu
      obtain ⟨d, _, rfl⟩ := List.mem_map.1 hu
      rfl
    · intro v' w' h1 h2
      have hne : v' ≠ .slice none 0 0 := by
        intro he
        rcases h1.2 with ⟨_, h0⟩ | ⟨g, cap, cur, he', _⟩
        · simp at h0
        · rw [he] at he'; cases he'
      refine h v' w' (Ow.sl (base := W.heap.size) ⟨?_, hne⟩) ((Below.refl _ W).grown h2 (Nat.le_refl _) (fun k hk => by cases hk))
      simpa using h1
theorem Sl.pair (w : World) (x y : Int) : Sl (w.alloc (.cells #[.int .i64 x, .int .i64 y] 3)) (.slice (some ⟨w.heap.size, 0, none⟩) 2 2) [x, y] := (Ow.lit w (Nat.le_refl _) [x, y] (by simp)).sl
theorem two_ds {x y : Int} {R : Nat} (h0 : 0 ≤ x) (h9 : x ≤ 9) (h1 : 0 ≤ y) (h2 : y ≤ 9) : Dl ([x, y] ++ ds R) ∧ lv ([x, y] ++ ds R) = x.toNat + 10 * y.toNat + 100 * R := by
  refine ⟨Dl.mk h0 h9 (Dl.mk h1 h2 (ds_dl R)), ?_⟩
  show x.toNat + 10 * (y.toNat + 10 * lv (ds R)) = _
  rw [lv_ds]
  omega
theorem cmpN_le {a b : Nat} (h : a ≤ b) : cmpN a b ≤ 0 := by
  unfold cmpN
  split
  · omega
  · rw [if_neg (by omega)]; omega
theorem cmpN_gt {a b : Nat} (h : b < a) : cmpN a b = 1 := by unfold cmpN; rw [if_neg (by omega), if_pos h]
theorem rt_dg {X T n : Nat} (h : X * X ≤ T) (hT : T < 10 ^ n) (hn : n ≤ 102) : dg X ≤ 60 := by
  refine (dg_iff _ _).2 ?_
  rcases Nat.lt_or_ge X (10 ^ 60) with h1 | h1
  · exact h1
  · have h2 := Nat.mul_le_mul h1 h1
    rw [← Nat.pow_add] at h2
    have h3 : 10 ^ n ≤ 10 ^ (60 + 60) := p10_le (by omega)
    omega
def RoO (A : List Int) (w : World) (x r i : Value) (wr : World) : Prop :=
  ∃ (k : Nat) (v : Int) (X R : Nat) (zx zr : Value), zx = x ∧ zr = r ∧ i = .int .i64 v ∧ Hid (v = 2 * (k : Int) - 2) ∧ 2 * k ≤ A.length ∧ Sl wr zx (ds X) ∧ Sl wr zr (ds R) ∧ Hid (X * X + R = lv (A.drop (2 * k))) ∧ Hid (R ≤ 2 * X) ∧ Kept w wr
def RoI (X S : Nat) (w : World) (d : Value) (wr : World) : Prop :=
  ∃ (e : Nat), d = .int .i64 (e : Int) ∧ e ≤ 9 ∧ Hid (nx X e ≤ S) ∧ Kept w wr
theorem get_cell {w : World} {b off n c : Nat} {l : List Int} (h : Sl w (.slice (some ⟨b, off, none⟩) n c) l) {j : Nat} {x : Int} (hx : l[j]? = some x) : w.cell? ⟨b, off + j, none⟩ = some (.int .i64 x) := h.cells j x hx
theorem Sl.lt {w : World} {b off n c : Nat} {l : List Int} (h : Sl w (.slice (some ⟨b, off, none⟩) n c) l) : b < w.heap.size := by
  obtain ⟨b', off', c', he, hb⟩ := h.form
  simp at he
  obtain ⟨⟨rfl, rfl⟩, _⟩ := he
  exact hb
set_option maxRecDepth 100000 in
set_option maxHeartbeats 8000000 in
theorem root_at (b0 off0 cap0 : Nat) (A0 : List Int) (w : World) (ht : Tab w) (hA0 : Dl A0) (na : A0.length ≤ 100) (hs0 : Sl w (.slice (some ⟨b0, off0, none⟩) A0.length cap0) A0) :
    Calls Tryd.prog 49 #[.slice (some ⟨b0, off0, none⟩) A0.length cap0] w fun e w' => ∃ q r, e = .returned (.tuple #[q, r]) ∧ Sl w' q (ds (isq (lv A0))) ∧ Sl w' r (ds (lv A0 - isq (lv A0) * isq (lv A0))) ∧ Kept w w' := by
  have hlt := ht.lt
  have hlt0 := ht.lt0
  have HS0 := Lib.hid hs0
  have HD0 := Lib.hid hA0
  clear hs0 hA0
  go_enter Tryd.func49, Tryd.ntmps49
  go_upto_if 11 with fail
  go_cut [0] (fun c0 wx => ∃ (b off cap : Nat) (A : List Int), c0 = .slice (some ⟨b, off, none⟩) A.length cap ∧ Sl wx (.slice (some ⟨b, off, none⟩) A.length cap) A ∧ Hid (Dl A) ∧ Hid (lv A = lv A0) ∧ Hid (A.length % 2 = 0) ∧ A.length ≤ 101 ∧ Kept w wx)
  case first =>
    by_cases hp : A0.length % 2 = 1
    · have hp1 : (A0.length : Int) % 2 = 1 := by omega
      have HP := Lib.hid hp
      have HSUM : Hid (([] : List Int).length + A0.length ≤ 1000000) := Lib.hid (by simp; omega)
      have HLZ : Hid (([] ++ A0 : List Int).length ≤ 1000000) := Lib.hid (by simp; omega)
      have hk0 : Kept w (w.alloc (.cells #[] 3)) := (Kept.refl ht).alloc _
      clear hp
      go_wp2_with (first
        | (at_builtin; refine appN rfl (.tmp 12) (.tmp 13) rfl (w.alloc (.cells #[] 3)) w.heap.size _ [] A0 b0 off0 cap0 ?_ ?_ (HS0.out.alloc _).cells (Ow.new w (Nat.le_refl _)) HSUM.out (by simp) ?_; rfl; rfl; intro v1 w1 ho1 hb1; have hbs1 := hb1.size)
        | (at_builtin; refine app1 rfl (.tmp 14) (.tmp 15) rfl w1 w.heap.size v1 ([] ++ A0) 0 ?_ ?_ ho1 HLZ.out (by simp at hbs1; omega) ?_; rfl; rfl; intro v2 w2 ho2 hb2))
      obtain ⟨b, off, cap, rfl, hb⟩ := ho2.sl.form
      have HO2 := Lib.hid ho2.sl
      clear ho1 ho2
      go_meet
      refine ⟨b, off, cap, A0 ++ [0], ?_, HO2.out, Lib.hid (HD0.out.snoc (by omega) (by omega)), Lib.hid (by rw [lv_snoc]; simp), Lib.hid (by rw [List.length_append, List.length_singleton]; have := HP.out; omega), by rw [List.length_append, List.length_singleton]; omega, ?_⟩
      · simp
      · exact Kept.mk ht (((Below.refl _ _).alloc (Nat.le_refl _) _).trans (hb1.trans hb2))
    · have hp1 : (A0.length : Int) % 2 = 0 := by omega
      have HP := Lib.hid hp
      clear hp
      go_wp2_with fail
      go_meet
      exact ⟨b0, off0, cap0, A0, rfl, HS0.out, HD0, Lib.hid rfl, Lib.hid (by have := HP.out; omega), by omega, Kept.refl ht⟩
  case rest =>
    obtain ⟨b, off, cap, A, rfl, hs, hD, hvA, hev, hlA, hkc⟩ := hcut
    have HA := Lib.hid hs
    have HKC := Lib.hid hkc
    clear hs
    go_wp2_with fail
    go_loopw [4, 5, 6] (RoO A wc) (fun _ _ i _ => (intOf i + 2).toNat)
    case atStart =>
      refine ⟨A.length / 2, _, 0, 0, _, _, rfl, rfl, rfl, Lib.hid (by have := hev.out; omega), by omega, ?_, ?_, Lib.hid (by rw [List.drop_of_length_le (by have := hev.out; omega)]; rfl), Lib.hid (by omega), ((Kept.refl hkc.1).alloc _).alloc _⟩
      · rw [ds_zero]; exact ((Ow.new wc (Nat.le_refl _)).alloc _).sl
      · rw [ds_zero]
        have h := (Ow.new (wc.alloc (.cells #[] 3)) (Nat.le_refl _)).sl
        rwa [World.size_alloc] at h
    case round =>
      obtain ⟨k, v, X, R, zx, zr, rfl, rfl, rfl, hvk, hk, hx, hr, hv, hRX, hkr⟩ := hrel
      by_cases h0 : k = 0
      · subst h0
        obtain rfl : v = -2 := by have := hvk.out; omega
        have HE : Hid (X = isq (lv A0) ∧ R = lv A0 - isq (lv A0) * isq (lv A0)) := Lib.hid (by have := hv.out; rw [Nat.mul_zero, List.drop_zero, hvA.out] at this; exact rt_end this hRX.out)
        go_wp2_with fail
        go_ret2
        exact ⟨_, _, rfl, by rw [← HE.out.1]; exact hx, by rw [← HE.out.2]; exact hr, HKC.out.trans hkr⟩
      · obtain ⟨k', rfl⟩ : ∃ k', k = k' + 1 := ⟨k - 1, by omega⟩
        obtain ⟨j, hj⟩ : ∃ j, 2 * k' = j := ⟨_, rfl⟩
        obtain rfl : v = (j : Int) := by have := hvk.out; omega
        have hjl : j + 1 < A.length := by omega
        obtain ⟨x0, hx0⟩ := get_lt (show j < A.length by omega)
        obtain ⟨x1, hx1⟩ := get_lt hjl
        have D0 := hD.out.get hx0
        have D1 := hD.out.get hx1
        have HX := Lib.hid hx0
        have HY := Lib.hid hx1
        have HJ := Lib.hid hj
        have hsr := HA.out.cells
        have HXB : Hid (dg X ≤ 60) := Lib.hid (rt_dg (T := lv A) (n := A.length) (by
          have h1 := hv.out
          have h2 := lv_drop_le A (2 * (k' + 1))
          omega) (lv_lt hD.out) (by omega))
        have HRB : Hid (dg R ≤ 62) := Lib.hid (by
          have h1 := dg_mono hRX.out
          have h2 := dg_addle X X
          have h3 : 2 * X = X + X := by omega
          have h4 := HXB.out
          refine (dg_iff _ _).2 ?_
          have h5 := lt_dg X
          have h6 : 10 ^ dg X ≤ 10 ^ 60 := p10_le h4
          have h7 := hRX.out
          have h8 : (10 : Nat) ^ 62 = 100 * 10 ^ 60 := by rw [show 62 = 2 + 60 from rfl, Nat.pow_add]
          omega)
        obtain ⟨b4, off4, cap4, rfl, hb4⟩ := hx.form
        obtain ⟨b5, off5, cap5, rfl, hb5⟩ := hr.form
        obtain ⟨E1, E2⟩ := two_ds (R := R) D0.1 D0.2 D1.1 D1.2
        obtain ⟨S, hS⟩ : ∃ S, x0.toNat + 10 * x1.toNat + 100 * R = S := ⟨_, rfl⟩
        rw [hS] at E2
        have HSS := Lib.hid hS
        have HE1 := Lib.hid E1
        have HE2 := Lib.hid E2
        have HLEN : Hid ([x0, x1].length + (ds R).length ≤ 1000000) := Lib.hid (by rw [ds_len]; have := HRB.out; simp; omega)
        have HLEN2 : Hid (([x0, x1] ++ ds R).length ≤ 1000000) := Lib.hid (by rw [List.length_append]; exact HLEN.out)
        have HSB : Hid (dg S ≤ 70) := Lib.hid (by
          have h1 := lv_lt E1
          rw [E2] at h1
          have h2 := (dg_iff _ _).2 h1
          rw [List.length_append, ds_len] at h2
          have := HRB.out
          simp at h2
          omega)
        have har : Sl wr (.slice (some ⟨b, off, none⟩) A.length cap) A := HA.out.call hkr
        have hbr : b < wr.heap.size := har.lt
        have c1 : wr.cell? ⟨b, off + j, none⟩ = some (.int .i64 x0) := har.cells j x0 hx0
        have c2 : wr.cell? ⟨b, off + (j + 1), none⟩ = some (.int .i64 x1) := har.cells (j + 1) x1 hx1
        have HXS := Lib.hid hx
        have HRS := Lib.hid hr
        have HK := Lib.hid hkr
        have HS : Hid (∀ w', Kept wr w' → Kept wr w' ∧ b < w'.heap.size ∧ w'.cell? ⟨b, off + j, none⟩ = some (.int .i64 x0) ∧ w'.cell? ⟨b, off + (j + 1), none⟩ = some (.int .i64 x1)) := Lib.hid (fun w' h => by
          have := (HA.out.call HK.out).call h
          exact ⟨h, this.lt, this.cells j x0 HX.out, this.cells (j + 1) x1 HY.out⟩)
        have hkrr := Kept.refl hkr.1
        have hj1 : (j : Int) + 1 < (A.length : Int) := by omega
        have hj2 : (j : Int) < (A.length : Int) := by omega
        clear hx hr hx0 hx1 har E1 E2 hS hj hsr hkc
        obtain ⟨nX, hnX⟩ : ∃ n, (ds X).length = n := ⟨_, rfl⟩
        obtain ⟨nR, hnR⟩ : ∃ n, (ds R).length = n := ⟨_, rfl⟩
        have HNX := Lib.hid hnX
        have HNR := Lib.hid hnR
        rw [hnX] at HXS ⊢
        rw [hnR] at HRS ⊢
        clear hnX hnR
        have q1 : IntKind.i64.wrap ((j : Int) + 1) = (j : Int) + 1 := IntWalk.i64_in _ (by omega)
        have q2 : (0 : Int) ≤ (j : Int) + 1 := by omega
        have q3 : ((j : Int) + 1).toNat = j + 1 := by omega
        go_upto_region 7 with fail
        go_region_held3 (fun w' => Kept wr w' ∧ b < w'.heap.size ∧ w'.cell? ⟨b, off + j, none⟩ = some (.int .i64 x0) ∧ w'.cell? ⟨b, off + (j + 1), none⟩ = some (.int .i64 x1))
          ((refine HS.out _ ?_; repeat' (first | (with_reducible assumption) | (with_reducible refine Kept.drew ?_) | (with_reducible refine Kept.alloc ?_ _))))
          (first
            | ((refine stepL rfl (.tmp 35) (.tmp 36) rfl _ (.slice (some ⟨b5, off5, none⟩) nR cap5) [x0, x1] (ds R) rfl rfl HLEN.out ?_ ?_ ?_); (focus (repeat' (first | exact Sl.pair _ x0 x1 | (with_reducible refine Sl.drew ?_)))); (focus (repeat' (first | (with_reducible exact HRS.out) | (with_reducible refine Sl.alloc ?_ _) | (with_reducible refine Sl.drew ?_)))); intro v1 w1 hs1 hb1; have hk1 : Kept wr w1 := Kept.mk hkrr.1 (Below.trans (by repeat' (first | exact Below.refl _ _ | refine Below.alloc ?_ ?_ _ | refine Below.drew ?_ | (simp; done))) (hb1.mono (by first | (simp [World.size_alloc]; done) | (simp [World.size_alloc, sz_drew]; omega)))); have HS1 := Lib.hid hs1; clear hs1 hb1)
            | (go_at_call 81; refine (trim_any v1 ([x0, x1] ++ ds R) w1 hk1.1 HE1.out HLEN2.out HS1.out).mono ?_; rintro e w2 ⟨v2, rfl, hs2, hk2⟩; have hk12 := hk1.trans hk2))
        clear q1 q2 q3
        rw [HE2.out] at hs2
        have HS2 := Lib.hid hs2
        have HK12 := Lib.hid (hkr.trans hk12)
        have HX2 := Lib.hid (HXS.out.call hk12)
        clear hs2 hk2 hk1 hk12 hkr hkrr c1 c2 HS hbr
        go_wp2_with fail
        go_loopw [7] (RoI X S w2) (fun d _ => 10 - (intOf d).toNat)
        case atStart => exact ⟨0, rfl, by omega, Lib.hid (by unfold nx; simp), Kept.refl HK12.out.1⟩
        case round =>
          obtain ⟨e, rfl, he9, hle, hke⟩ := hrel
          have HQ0 := Lib.hid (HK12.out.trans hke)
          have HX0 := Lib.hid (HX2.out.call hke)
          have HR0 := Lib.hid (HS2.out.call hke)
          have HKE := Lib.hid hke
          clear hke
          by_cases hl9 : e < 9
          · have hl9' : (e : Int) < 9 := by omega
            have HN1 : Hid (∀ W, Kept wc W → Sl W (.slice (some ⟨b4, off4, none⟩) nX cap4) (ds X) → Calls Tryd.prog 85 #[.slice (some ⟨b4, off4, none⟩) nX cap4, .int .i64 ((e : Int) + 1)] W fun e' w' => ∃ v', e' = .returned v' ∧ Sl w' v' (ds (nx X (e + 1))) ∧ Kept W w') := Lib.hid (fun W h1 h2 => by
              have := refnext _ X (e + 1) W h1.1 h2 HXB.out (by omega)
              rwa [show ((e + 1 : Nat) : Int) = (e : Int) + 1 by omega] at this)
            have HND : Hid (dg (nx X (e + 1)) ≤ 67) := Lib.hid (dg_nx HXB.out (by omega)).2.2.2
            by_cases hc : nx X (e + 1) ≤ S
            · obtain ⟨c, hcc⟩ : ∃ c, cmpN (nx X (e + 1)) S = c := ⟨_, rfl⟩
              have c0 : c ≤ 0 := by rw [← hcc]; exact cmpN_le hc
              have HC1 : Hid (∀ W, Kept wc W → ∀ q, Sl W q (ds (nx X (e + 1))) → Sl W v2 (ds S) → Calls Tryd.prog 79 #[q, v2] W fun e' w' => e' = .returned (.int .i64 c) ∧ Kept W w') := Lib.hid (fun W h1 q h2 h3 => by
                have := refcmp q v2 _ S W h1.1 h2 h3 (by have := HND.out; omega)
                rwa [hcc] at this)
              have HLE := Lib.hid hc
              clear hcc hc
              go_wp2_with (first
                | (go_at_call 85; (with_reducible refine (HN1.out _ HQ0.out HX0.out).mono ?_); rintro e' w3 ⟨v3, rfl, hs3, hk3⟩; have HK3 := Lib.hid (HQ0.out.trans hk3); have HX3 := Lib.hid (HX0.out.call hk3); have HR3 := Lib.hid (HR0.out.call hk3); have HN3 := Lib.hid hs3; have HKK3 := Lib.hid hk3; clear hs3 hk3)
                | (go_at_call 79; (with_reducible refine (HC1.out _ HK3.out _ HN3.out HR3.out).mono ?_); rintro e' w3' ⟨rfl, hkq⟩; have HKKC := Lib.hid hkq; have HQC := Lib.hid (HK3.out.trans hkq); have HXC := Lib.hid (HX3.out.call hkq); have HRC := Lib.hid (HR3.out.call hkq); clear hkq))
              go_roundw
              case rel => exact ⟨e + 1, by go_num, by omega, HLE, (HKE.out.trans HKK3.out).trans HKKC.out⟩
              case measure => simp [intOf]; omega
            · have hgt : S < nx X (e + 1) := by omega
              have HC1 : Hid (∀ W, Kept wc W → ∀ q, Sl W q (ds (nx X (e + 1))) → Sl W v2 (ds S) → Calls Tryd.prog 79 #[q, v2] W fun e' w' => e' = .returned (.int .i64 1) ∧ Kept W w') := Lib.hid (fun W h1 q h2 h3 => by
                have := refcmp q v2 _ S W h1.1 h2 h3 (by have := HND.out; omega)
                rwa [cmpN_gt hgt] at this)
              have hmx : e = 9 ∨ S < nx X (e + 1) := Or.inr hgt
              clear hgt hc
              have HSQ : Hid ((10 * X + e) * (10 * X + e) + (S - nx X e) = lv (A.drop j)) := Lib.hid (by have h2 := hv.out; rw [show 2 * (k' + 1) = j + 2 by have := HJ.out; omega] at h2; have := rt_sq (u := x0.toNat + 10 * x1.toNat) (d := e) h2 (by rw [HSS.out]; exact hle.out); rw [HSS.out] at this; rw [this, lv_two A j HX.out HY.out])
              have HLO : Hid (S - nx X e ≤ 2 * (10 * X + e)) := Lib.hid (by have := rt_hi (u := x0.toNat + 10 * x1.toNat) hRX.out (by omega) he9 (by rw [HSS.out]; exact hmx) (by rw [HSS.out]; exact hle.out); rwa [HSS.out] at this)
              have HXD : Hid (lv ([(e : Int)] ++ ds X) = 10 * X + e) := Lib.hid (by rw [(cons_ds (R := X) (show (0 : Int) ≤ (e : Int) by omega) (by omega)).2]; omega)
              have HDC : Hid (Dl ([(e : Int)] ++ ds X)) := Lib.hid (cons_ds (by omega) (by omega)).1
              have HSUM2 : Hid ([(e : Int)].length + (ds X).length ≤ 1000000) := Lib.hid (by rw [List.length_singleton, ds_len]; have := HXB.out; omega)
              have HSUM3 : Hid (([(e : Int)] ++ ds X).length ≤ 1000000) := Lib.hid (by rw [List.length_append]; exact HSUM2.out)
              have HNE : Hid (∀ W, Kept wc W → Sl W (.slice (some ⟨b4, off4, none⟩) nX cap4) (ds X) → Calls Tryd.prog 85 #[.slice (some ⟨b4, off4, none⟩) nX cap4, .int .i64 (e : Int)] W fun e' w' => ∃ v', e' = .returned v' ∧ Sl w' v' (ds (nx X e)) ∧ Kept W w') := Lib.hid (fun W h1 h2 => refnext _ X e W h1.1 h2 HXB.out (by omega))
              have HMI : Hid (∀ W, Kept wc W → ∀ q, Sl W v2 (ds S) → Sl W q (ds (nx X e)) → Calls Tryd.prog 80 #[v2, q] W fun e' w' => ∃ v', e' = .returned v' ∧ Sl w' v' (ds (S - nx X e)) ∧ Kept W w') := Lib.hid (fun W h1 q h2 h3 => refminus v2 q S (nx X e) W h1.1 h2 h3 (by have := HSB.out; omega) hle.out)
              clear hmx
              go_wp2_with (first
                | (go_at_call 85; (with_reducible refine (HN1.out _ HQ0.out HX0.out).mono ?_); rintro e' w3 ⟨v3, rfl, hs3, hk3⟩; have HK3 := Lib.hid (HQ0.out.trans hk3); have HX3 := Lib.hid (HX0.out.call hk3); have HR3 := Lib.hid (HR0.out.call hk3); have HN3 := Lib.hid hs3; have HKK3 := Lib.hid hk3; clear hs3 hk3)
                | (go_at_call 79; (with_reducible refine (HC1.out _ HK3.out _ HN3.out HR3.out).mono ?_); rintro e' w3' ⟨rfl, hkq⟩; have HKKC := Lib.hid hkq; have HQC := Lib.hid (HK3.out.trans hkq); have HXC := Lib.hid (HX3.out.call hkq); have HRC := Lib.hid (HR3.out.call hkq); clear hkq)
                | (go_at_call 85; (with_reducible refine (HNE.out _ HQC.out HXC.out).mono ?_); rintro e' w4 ⟨v4, rfl, hs4, hk4⟩; have HK4 := Lib.hid (HQC.out.trans hk4); have HX4 := Lib.hid (HXC.out.call hk4); have HR4 := Lib.hid (HRC.out.call hk4); have HN4 := Lib.hid hs4; clear hs4 hk4)
                | (go_at_call 80; (with_reducible refine (HMI.out _ HK4.out _ HR4.out HN4.out).mono ?_); rintro e' w5 ⟨v5, rfl, hs5, hk5⟩; have HK5 := Lib.hid (HK4.out.trans hk5); have HX5 := Lib.hid (HX4.out.call hk5); have HR5 := Lib.hid hs5; clear hs5 hk5)
                | (at_builtin; refine appN rfl _ _ rfl (w5.alloc (.cells #[.int .i64 (e : Int)] 3)) w5.heap.size _ [(e : Int)] (ds X) b4 off4 cap4 ?_ ?_ (HX5.out.alloc _).cells (Ow.lit w5 (Nat.le_refl _) [(e : Int)] (by simp)) HSUM2.out (by simp) ?_; rfl; (rw [HNX.out]; rfl); intro v6 w6 ho6 hb6; have hk6 := lit_kept HK5.out.1 hb6; have HO6 := Lib.hid ho6.sl; have HK6 := Lib.hid (HK5.out.trans hk6); have HR6 := Lib.hid (HR5.out.call hk6); clear ho6 hk6)
                | (go_at_call 81; refine (trim_any v6 ([(e : Int)] ++ ds X) w6 HK6.out.1 HDC.out HSUM3.out HO6.out).mono ?_; rintro e' w7 ⟨v7, rfl, hs7, hk7⟩))
              rw [HXD.out] at hs7
              have HS7 := Lib.hid hs7
              clear hs7
              go_roundw
              case rel => exact ⟨k', _, 10 * X + e, S - nx X e, _, _, rfl, rfl, rfl, Lib.hid (by have := HJ.out; omega), by omega, HS7.out, HR6.out.call hk7, Lib.hid (by rw [HJ.out]; exact HSQ.out), HLO, HK6.out.trans hk7⟩
              case measure => simp [intOf]; omega
          · obtain rfl : e = 9 := by omega
            have HQC := HQ0
            have HXC := HX0
            have HRC := HR0
            have hmx : (9 : Nat) = 9 ∨ S < nx X (9 + 1) := Or.inl rfl
            clear HQ0 HX0 HR0 hl9
            have HSQ : Hid ((10 * X + 9) * (10 * X + 9) + (S - nx X 9) = lv (A.drop j)) := Lib.hid (by have h2 := hv.out; rw [show 2 * (k' + 1) = j + 2 by have := HJ.out; omega] at h2; have := rt_sq (u := x0.toNat + 10 * x1.toNat) (d := 9) h2 (by rw [HSS.out]; exact hle.out); rw [HSS.out] at this; rw [this, lv_two A j HX.out HY.out])
            have HLO : Hid (S - nx X 9 ≤ 2 * (10 * X + 9)) := Lib.hid (by have := rt_hi (u := x0.toNat + 10 * x1.toNat) hRX.out (by omega) he9 (by rw [HSS.out]; exact hmx) (by rw [HSS.out]; exact hle.out); rwa [HSS.out] at this)
            have HXD : Hid (lv ([(9 : Int)] ++ ds X) = 10 * X + 9) := Lib.hid (by rw [(cons_ds (R := X) (show (0 : Int) ≤ (9 : Int) by omega) (by omega)).2]; omega)
            have HDC : Hid (Dl ([(9 : Int)] ++ ds X)) := Lib.hid (cons_ds (by omega) (by omega)).1
            have HSUM2 : Hid ([(9 : Int)].length + (ds X).length ≤ 1000000) := Lib.hid (by rw [List.length_singleton, ds_len]; have := HXB.out; omega)
            have HSUM3 : Hid (([(9 : Int)] ++ ds X).length ≤ 1000000) := Lib.hid (by rw [List.length_append]; exact HSUM2.out)
            have HNE : Hid (∀ W, Kept wc W → Sl W (.slice (some ⟨b4, off4, none⟩) nX cap4) (ds X) → Calls Tryd.prog 85 #[.slice (some ⟨b4, off4, none⟩) nX cap4, .int .i64 (9 : Int)] W fun e' w' => ∃ v', e' = .returned v' ∧ Sl w' v' (ds (nx X 9)) ∧ Kept W w') := Lib.hid (fun W h1 h2 => refnext _ X 9 W h1.1 h2 HXB.out (by omega))
            have HMI : Hid (∀ W, Kept wc W → ∀ q, Sl W v2 (ds S) → Sl W q (ds (nx X 9)) → Calls Tryd.prog 80 #[v2, q] W fun e' w' => ∃ v', e' = .returned v' ∧ Sl w' v' (ds (S - nx X 9)) ∧ Kept W w') := Lib.hid (fun W h1 q h2 h3 => refminus v2 q S (nx X 9) W h1.1 h2 h3 (by have := HSB.out; omega) hle.out)
            clear hmx
            go_wp2_with (first
              | (go_at_call 85; (with_reducible refine (HNE.out _ HQC.out HXC.out).mono ?_); rintro e' w4 ⟨v4, rfl, hs4, hk4⟩; have HK4 := Lib.hid (HQC.out.trans hk4); have HX4 := Lib.hid (HXC.out.call hk4); have HR4 := Lib.hid (HRC.out.call hk4); have HN4 := Lib.hid hs4; clear hs4 hk4)
              | (go_at_call 80; (with_reducible refine (HMI.out _ HK4.out _ HR4.out HN4.out).mono ?_); rintro e' w5 ⟨v5, rfl, hs5, hk5⟩; have HK5 := Lib.hid (HK4.out.trans hk5); have HX5 := Lib.hid (HX4.out.call hk5); have HR5 := Lib.hid hs5; clear hs5 hk5)
              | (at_builtin; refine appN rfl _ _ rfl (w5.alloc (.cells #[.int .i64 (9 : Int)] 3)) w5.heap.size _ [(9 : Int)] (ds X) b4 off4 cap4 ?_ ?_ (HX5.out.alloc _).cells (Ow.lit w5 (Nat.le_refl _) [(9 : Int)] (by simp)) HSUM2.out (by simp) ?_; rfl; (rw [HNX.out]; rfl); intro v6 w6 ho6 hb6; have hk6 := lit_kept HK5.out.1 hb6; have HO6 := Lib.hid ho6.sl; have HK6 := Lib.hid (HK5.out.trans hk6); have HR6 := Lib.hid (HR5.out.call hk6); clear ho6 hk6)
              | (go_at_call 81; refine (trim_any v6 ([(9 : Int)] ++ ds X) w6 HK6.out.1 HDC.out HSUM3.out HO6.out).mono ?_; rintro e' w7 ⟨v7, rfl, hs7, hk7⟩))
            rw [HXD.out] at hs7
            have HS7 := Lib.hid hs7
            clear hs7
            go_roundw
            case rel => exact ⟨k', _, 10 * X + 9, S - nx X 9, _, _, rfl, rfl, rfl, Lib.hid (by have := HJ.out; omega), by omega, HS7.out, HR6.out.call hk7, Lib.hid (by rw [HJ.out]; exact HSQ.out), HLO, HK6.out.trans hk7⟩
            case measure => simp [intOf]; omega
/-- root, of a slice that reads as the digits of a number. -/
theorem refroot (v : Value) (a : Nat) (w : World) (ht : Tab w) (h : Sl w v (ds a)) (ha : dg a ≤ 100) :
    Calls Tryd.prog 49 #[v] w fun e w' => ∃ q r, e = .returned (.tuple #[q, r]) ∧ Sl w' q (ds (isq a)) ∧ Sl w' r (ds (a - isq a * isq a)) ∧ Kept w w' := by
  obtain ⟨b, off, c, rfl, hb⟩ := h.form
  have := root_at b off c (ds a) w ht (ds_dl a) (by rw [ds_len]; exact ha) h
  rw [lv_ds] at this
  exact this
end Go.Proofs.YtanfhlkfmmglhaaDoor
