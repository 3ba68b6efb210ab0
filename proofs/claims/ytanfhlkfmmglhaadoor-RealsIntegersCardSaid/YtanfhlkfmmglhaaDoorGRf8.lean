/- The reference's cut. Condition: the tables hold what their initialisers lay. -/
import Derived.Test.YtanfhlkfmmglhaaDoorGRt
import Derived.Deep.RegionLawGrows
namespace Go.Proofs.YtanfhlkfmmglhaaDoor
open Go.ChangeShapes Go.WideShapes Go.ChangeAt Go.RowKit
attribute [local go_sem ↓] Go.wp_at_zero Go.wp_at_succ

/-- append to an empty literal, as a step of a region that draws. -/
theorem stepE {ops : Array Oper} {o : Oper} {a : Act} {K : Act → World → Prop} {Q : Exit → Act → World → Prop} {E : Prop} {W : World} (hgd : o.guard = none) (s x : Operand)
    (ho : o.op = .call { callee := .builtin .append, args := #[s, x], argTypes := #[51, 51] })
    (B : Nat) (u : Value) (M : List Int) (hs : a.eval s = .slice (some ⟨B, 0, none⟩) 0 0) (hx : a.eval x = u) (hl : M.length ≤ 1000000) (hB : B < W.heap.size) (hsrc : Sl W u M)
    (h : ∀ v' w', Sl w' v' M → Below W.heap.size W w' → K (a.put o.dst v') w') :
    if Region.wanted o (yielded ops a.tmps) = true then Oper.wp Tryd.prog o a W K Q else E := by
  obtain ⟨i0, hi, hz0, hz1, hz2⟩ := info_parts info_int
  obtain ⟨b, off, c, rfl, hc, hm, hb, hg⟩ := hsrc
  cases M with
  | nil =>
    refine step_append_room hgd s x _ ho _ i0 1 Tryd.underlying51 hi hz1 B 0 0 0 hs ⟨b, off, none⟩ 0 c [] hx rfl (fun j u hj => by simp at hj) (fun u hu => by cases hu) (Nat.le_refl _) (fun j hj => absurd hj (Nat.not_lt_zero _)) ?_
    exact h _ _ ⟨B, 0, 0, rfl, Nat.le_refl _, Nat.zero_le _, hB, fun j u hj => by simp at hj⟩ (Below.refl _ _)
  | cons d M =>
    refine step_append_grows hgd s x _ ho _ i0 (.int .i64 0) 1 8 Tryd.underlying51 hi hz0 hz1 hz2 rfl (by decide) (some ⟨B, 0, none⟩) 0 0 [] hs (fun h => by cases h) rfl (fun _ _ j u hj => by simp at hj) ⟨b, off, none⟩ (d :: M).length c ((d :: M).map (Value.int .i64)) hx (by simp) ?_ ?_ (by simp) (by unfold maxLen; omega) (by omega) ?_
    · intro j u hj
      rw [List.getElem?_map] at hj
      cases hm : (d :: M)[j]? with
      | none => rw [hm] at hj; cases hj
      | some d' =>
        rw [hm] at hj
        obtain rfl := Option.some.inj hj
        have := hg j d' hm
        by_cases h0 : j = 0
        · subst h0; simpa [Addr.add] using this
        · simpa [Addr.add, h0] using this
    · intro u hu
      obtain ⟨d, _, rfl⟩ := List.mem_map.1 hu
      rfl
    · intro v' w' h1 h2
      have hne : v' ≠ .slice none 0 0 := by
        intro he
        rcases h1.2 with ⟨_, h0⟩ | ⟨g, cap, cur, he', _⟩
        · simp at h0
        · rw [he] at he'; cases he'
      refine h v' w' (Ow.sl (base := W.heap.size) ⟨?_, hne⟩) ((Below.refl _ W).grown h2 (Nat.le_refl _) (fun k hk => by cases hk))
      simpa using h1
theorem Sl.cast {w : World} {v v' : Value} {l : List Int} (h : Sl w v l) (e : v = v') : Sl w v' l := e ▸ h
theorem trim_same (v : Value) (L : List Int) (w : World) (hD : Dl L) (hl : L.length ≤ 1000000) (h : Sl w v L) :
    Calls Tryd.prog 81 #[v] w fun e w' => ∃ v', e = .returned v' ∧ Sl w v' (ds (lv L)) ∧ w = w' := by
  obtain ⟨b, off, cap, rfl, hc, hm, hb, hg⟩ := h
  refine (trim_at b off cap L w hD hc hm hl hb hg).mono fun e w' ⟨k, he, hk, hkl, hw⟩ => ?_
  subst hw
  refine ⟨_, he, ⟨b, off, cap, ?_, ?_, hm, hb, fun j u hj => ?_⟩, rfl⟩
  · rw [← hk, List.length_take, Nat.min_eq_left hkl]
  · rw [← hk, List.length_take]; omega
  · rw [← hk] at hj
    refine hg j u ?_
    rw [List.getElem?_take] at hj
    split at hj
    · exact hj
    · cases hj
theorem lv_cut {n k : Nat} (hk : k ≤ dg n) : lv ((ds n).take k) = n % 10 ^ k ∧ lv ((ds n).drop k) = n / 10 ^ k := by
  have hlen : ((ds n).take k).length = k := by rw [List.length_take, ds_len]; omega
  have h1 := lv_lt ((ds_dl n).take k)
  rw [hlen] at h1
  have h : n = lv ((ds n).take k) + 10 ^ k * lv ((ds n).drop k) := by
    conv => lhs; rw [← lv_ds n, ← List.take_append_drop k (ds n)]
    rw [lv_append, hlen]
  generalize lv ((ds n).take k) = x at *
  generalize lv ((ds n).drop k) = y at *
  subst h
  exact ⟨by rw [Nat.add_mul_mod_self_left, Nat.mod_eq_of_lt h1], by rw [Nat.add_mul_div_left _ _ (p10 k), Nat.div_eq_of_lt h1, Nat.zero_add]⟩

/-- How what is cut off compares with one half, and whether it is something. -/
def cutS (n k : Nat) (more : Bool) : Int := if cmpN (n % 10 ^ (k + 1)) (5 * 10 ^ k) = 0 ∧ more = true then 2 else cmpN (n % 10 ^ (k + 1)) (5 * 10 ^ k) + 1
def cutL (n k : Nat) (more : Bool) : Bool := decide (n % 10 ^ (k + 1) ≠ 0) || more
theorem cut_pack {w w' : World} {b v e m : Value} (h : Below (w.heap.size + 1) (w.alloc (.cells #[b, v, e, m] 53)) w') :
    Below (w.heap.size + 1) (w.alloc (.cells #[b, v, e, m] 53)) w' ∧ w'.cell? ⟨w.heap.size, 1, none⟩ = some v ∧ w'.cell? ⟨w.heap.size, 3, none⟩ = some m := by
  refine ⟨h, ?_, ?_⟩
  · rw [h.cell (p := ⟨w.heap.size, 1, none⟩) (Nat.lt_succ_self _)]; simp
  · rw [h.cell (p := ⟨w.heap.size, 3, none⟩) (Nat.lt_succ_self _)]; simp
theorem ds_five : ds 5 = [5] := by rw [ds_step (by omega)]; show [((5 % 10 : Nat) : Int)] ++ ds 0 = _; rw [ds_zero]; rfl
theorem dg_five : dg 5 ≤ 100000 := by rw [← ds_len, ds_five]; decide
theorem Sl.five (w : World) : Sl (w.alloc (.cells #[.int .i64 5] 3)) (.slice (some ⟨w.heap.size, 0, none⟩) 1 1) (ds 5) := by
  rw [ds_five]
  refine ⟨w.heap.size, 0, 1, rfl, Nat.le_refl _, by decide, by simp, fun j u hj => ?_⟩
  match j, hj with
  | 0, hj => obtain rfl := Option.some.inj hj; simp
  | j + 1, hj => simp at hj
theorem dg_mod (n k : Nat) : dg (n % 10 ^ k) ≤ k := (dg_iff _ _).2 (Nat.mod_lt _ (p10 k))
theorem cmpN_or (a b : Nat) : cmpN a b = -1 ∨ cmpN a b = 0 ∨ cmpN a b = 1 := by
  unfold cmpN
  split
  · exact Or.inl rfl
  · split
    · exact Or.inr (Or.inr rfl)
    · exact Or.inr (Or.inl rfl)
set_option maxRecDepth 100000 in
set_option maxHeartbeats 4000000 in
theorem cut_near (neg more : Bool) (n j b off cap : Nat) (MA MB : List Int) (k e : Int) (len : Nat) (w : World) (ht : Tab w) (HA : Hid (Sl w (.slice (some ⟨b, off + (j + 1), none⟩) (len - (j + 1)) (cap - (j + 1))) MA)) (HB : Hid (Sl w (.slice (some ⟨b, off, none⟩) (j + 1) cap) MB))
    (HDA : Hid (Dl MA)) (HDB : Hid (Dl MB)) (HLA : Hid (MA.length ≤ 1000000)) (HLB : Hid (MB.length ≤ 1000000)) (HVA : Hid (lv MB = n % 10 ^ (j + 1) ∧ lv MA = n / 10 ^ (j + 1)))
    (k1 : k - 1 = (j : Int)) (k2 : k.toNat = j + 1) (k3 : (0 : Int) ≤ k) (k4 : k ≤ (len : Int)) (hc' : len ≤ cap) (_hm : cap ≤ 2 ^ 63 - 1) (_hb : b < w.heap.size) (hj : j ≤ 100000) (hcj : ¬ cap = j + 1) :
    Calls Tryd.prog 75 #[.agg #[.bool neg, .slice (some ⟨b, off, none⟩) len cap, .int .i64 e, .bool more], .int .i64 k] w fun x w' => ∃ v', x = .returned (.tuple #[v', .int .i64 (cutS n j more), .bool (cutL n j more)]) ∧ Sl w' v' (ds (n / 10 ^ (j + 1))) ∧ Kept w w' := by
  have hlt := ht.lt
  have hlt0 := ht.lt0
  have k5 : k ≤ (cap : Int) := by omega
  go_enter Tryd.func75, Tryd.ntmps75
  go_upto_region 3 with fail
  go_cut [7, 8] (fun c7 c8 wx => ∃ q7 q8 : Value, q7 = c7 ∧ q8 = c8 ∧ Sl wx q7 (ds (lv MA)) ∧ Sl wx q8 (ds (lv MB)) ∧ Below (w.heap.size + 1) (w.alloc (.cells #[.bool neg, .slice (some ⟨b, off, none⟩) len cap, .int .i64 e, .bool more] 53)) wx)
  case first =>
    go_region_held3 (fun w' => Below (w.heap.size + 1) (w.alloc (.cells #[.bool neg, .slice (some ⟨b, off, none⟩) len cap, .int .i64 e, .bool more] 53)) w' ∧ w'.cell? ⟨w.heap.size, 1, none⟩ = some (.slice (some ⟨b, off, none⟩) len cap) ∧ w'.cell? ⟨w.heap.size, 3, none⟩ = some (.bool more))
      ((refine cut_pack ?_; (focus (repeat' (first | (with_reducible exact Below.refl _ _) | (with_reducible refine Below.trans ?_ (Below.mono hb1 ?_)) | (with_reducible refine Below.trans ?_ (Below.mono hb2 ?_)) | (with_reducible refine Below.alloc ?_ ?_ _) | (with_reducible refine Below.drew ?_) | omega | (simp only [World.size_alloc, sz_drew]; omega))))))
      (first
        | ((refine stepE rfl (.tmp 16) (.tmp 20) rfl _ (.slice (some ⟨b, off + (j + 1), none⟩) (len - (j + 1)) (cap - (j + 1))) MA rfl rfl HLA.out ?_ ?_ ?_); (focus (first | (simp only [World.size_alloc, sz_drew]; omega) | omega)); (focus (repeat' (first | assumption | (with_reducible refine Sl.below ?_ hb1) | (with_reducible refine Sl.below ?_ hb2) | (with_reducible refine Sl.alloc ?_ _) | (with_reducible refine Sl.drew ?_) | (with_reducible exact HA.out) | (with_reducible exact HB.out) | (with_reducible exact HA.out.cast (by simp)) | (with_reducible exact HB.out.cast (by simp))))); intro v1 w1 hs1 hb1; have hz1 := hb1.size; (try simp only [World.size_alloc] at hz1); (try simp only [sz_drew] at hz1); (try simp only [World.size_alloc] at hz1))
        | ((refine stepE rfl (.tmp 23) (.tmp 27) rfl _ (.slice (some ⟨b, off, none⟩) (j + 1) cap) MB rfl rfl HLB.out ?_ ?_ ?_); (focus (first | (simp only [World.size_alloc]; omega) | omega)); (focus (repeat' (first | assumption | (with_reducible refine Sl.below ?_ hb1) | (with_reducible refine Sl.below ?_ hb2) | (with_reducible refine Sl.alloc ?_ _) | (with_reducible refine Sl.drew ?_) | (with_reducible exact HA.out) | (with_reducible exact HB.out) | (with_reducible exact HA.out.cast (by simp)) | (with_reducible exact HB.out.cast (by simp))))); intro v2 w2 hs2 hb2; have hz2 := hb2.size; (try simp only [World.size_alloc] at hz2); (try simp only [sz_drew] at hz2); (try simp only [World.size_alloc] at hz2))
        | (go_at_call 81; (with_reducible refine Calls.mono (trim_same v1 MA _ HDA.out HLA.out ?_) ?_); (focus (repeat' (first | assumption | (with_reducible refine Sl.below ?_ hb1) | (with_reducible refine Sl.below ?_ hb2) | (with_reducible refine Sl.alloc ?_ _) | (with_reducible refine Sl.drew ?_) | (with_reducible exact HA.out) | (with_reducible exact HB.out) | (with_reducible exact HA.out.cast (by simp)) | (with_reducible exact HB.out.cast (by simp))))); rintro e w' ⟨q1, rfl, hq1, rfl⟩)
        | (go_at_call 81; (with_reducible refine Calls.mono (trim_same v2 MB _ HDB.out HLB.out ?_) ?_); (focus (repeat' (first | assumption | (with_reducible refine Sl.below ?_ hb1) | (with_reducible refine Sl.below ?_ hb2) | (with_reducible refine Sl.alloc ?_ _) | (with_reducible refine Sl.drew ?_) | (with_reducible exact HA.out) | (with_reducible exact HB.out) | (with_reducible exact HA.out.cast (by simp)) | (with_reducible exact HB.out.cast (by simp))))); rintro e w' ⟨q2, rfl, hq2, rfl⟩))
    all_goals
      go_wp2_with fail
      go_meet
      (refine ⟨_, _, rfl, rfl, ?_, ?_, ?_⟩)
      · (focus (repeat' (first | assumption | (with_reducible refine Sl.below ?_ hb1) | (with_reducible refine Sl.below ?_ hb2) | (with_reducible refine Sl.alloc ?_ _) | (with_reducible refine Sl.drew ?_) | (with_reducible exact HA.out) | (with_reducible exact HB.out) | (with_reducible exact HA.out.cast (by simp)) | (with_reducible exact HB.out.cast (by simp)))))
      · (focus (repeat' (first | assumption | (with_reducible refine Sl.below ?_ hb1) | (with_reducible refine Sl.below ?_ hb2) | (with_reducible refine Sl.alloc ?_ _) | (with_reducible refine Sl.drew ?_) | (with_reducible exact HA.out) | (with_reducible exact HB.out) | (with_reducible exact HA.out.cast (by simp)) | (with_reducible exact HB.out.cast (by simp)))))
      · (focus (repeat' (first | (with_reducible exact Below.refl _ _) | (with_reducible refine Below.trans ?_ (Below.mono hb1 ?_)) | (with_reducible refine Below.trans ?_ (Below.mono hb2 ?_)) | (with_reducible refine Below.alloc ?_ ?_ _) | (with_reducible refine Below.drew ?_) | omega | (simp only [World.size_alloc, sz_drew]; omega))))
  case rest =>
    obtain ⟨q7, q8, rfl, rfl, hs7, hs8, hbw⟩ := hcut
    obtain ⟨-, -, hc3⟩ := cut_pack hbw
    rw [HVA.out.2] at hs7
    rw [HVA.out.1] at hs8
    have hbk : Below w.heap.size w wc := ((Below.refl _ _).alloc (Nat.le_refl _) _).trans (hbw.mono (Nat.le_succ _))
    have htc := ht.of_below hbk
    have hkc : Kept w wc := Kept.mk ht hbk
    have hzc : w.heap.size + 1 ≤ wc.heap.size := by have := hbw.size; simpa using this
    have HQ := Lib.hid hs7
    have HC3 : Hid (∀ w1 w2, Kept (wc.alloc (.cells #[.int .i64 5] 3)) w1 → Kept w1 w2 → w2.cell? ⟨w.heap.size, 3, none⟩ = some (.bool more)) := Lib.hid (fun w1 w2 k1 k2 => by
      have hz := k1.2.size
      rw [World.size_alloc] at hz
      rw [k2.2.cell (p := ⟨w.heap.size, 3, none⟩) (show w.heap.size < _ by omega), k1.2.cell (p := ⟨w.heap.size, 3, none⟩) (show w.heap.size < _ by rw [World.size_alloc]; omega), ((Below.refl wc.heap.size wc).alloc (Nat.le_refl _) _).cell (p := ⟨w.heap.size, 3, none⟩) (show w.heap.size < _ by omega)]
      exact hc3)
    clear hc3
    have hdr := dg_mod n (j + 1)
    obtain ⟨r, hr⟩ : ∃ r, n % 10 ^ (j + 1) = r := ⟨_, rfl⟩
    obtain ⟨c, hcc⟩ : ∃ c, cmpN r (5 * 10 ^ j) = c := ⟨_, rfl⟩
    have HS : Hid (cutS n j more = if c = 0 ∧ more = true then 2 else c + 1) := Lib.hid (by unfold cutS; rw [hr, hcc])
    have HL : Hid (cutL n j more = (decide (r ≠ 0) || more)) := Lib.hid (by unfold cutL; rw [hr])
    have hc0 : c = -1 ∨ c = 0 ∨ c = 1 := by rw [← hcc]; exact cmpN_or _ _
    rw [hr] at hs8 hdr
    have HSH := Lib.hid (refshift (.slice (some ⟨wc.heap.size, 0, none⟩) 1 1) 5 j (wc.alloc (.cells #[.int .i64 5] 3)) (htc.of_below ((Below.refl _ _).alloc (Nat.le_refl _) _)) (Sl.five wc) dg_five hj)
    have HCM : Hid (∀ W v1, Tab W → Sl W v1 (ds (5 * 10 ^ j)) → Sl W q8 (ds r) → Calls Tryd.prog 79 #[q8, v1] W fun e w' => e = .returned (.int .i64 c) ∧ Kept W w') := Lib.hid (fun W v1 a b d => by rw [← hcc]; exact refcmp q8 v1 r _ W a d b (by omega))
    obtain ⟨b8, o8, cap8, rfl, p8, z8, r8, s8⟩ := id hs8
    have HS8 := Lib.hid hs8
    have hln : (ds r).length = 0 ∧ r = 0 ∨ 0 < (ds r).length ∧ r ≠ 0 := by
      rw [ds_len]
      by_cases h0 : r = 0
      · subst h0; exact Or.inl ⟨dg_zero, rfl⟩
      · have := dg_ne h0; exact Or.inr ⟨by omega, h0⟩
    clear p8 z8 s8 hs8 hr hcc hdr HA HB HDA HDB HLA HLB HVA hs7 hbw hc' _hm k2 k3 k4 k5 _hb
    generalize (ds r).length = ln at *
    rcases hc0 with rfl | rfl | rfl <;> rcases hln with ⟨rfl, hr0⟩ | ⟨hl0, hr0⟩ <;> cases more
    all_goals
      have HR := Lib.hid hr0
      clear hr0
      go_upto_region 7 with (first
        | (go_at_call 47; (with_reducible refine HSH.out.mono ?_); rintro e w1 ⟨v1, rfl, hv1, hk1⟩; obtain ⟨hc1, hf1⟩ := bcell hk1.2; have ht1 := hk1.1; have hs81 := (HS8.out.alloc (.cells #[.int .i64 5] 3)).call hk1; have hz1 := hk1.2.size; (try simp only [World.size_alloc] at hz1); (try simp only [World.size_alloc] at hc1 hf1))
        | (go_at_call 79; (with_reducible refine (HCM.out _ v1 ht1 hv1 hs81).mono ?_); rintro e w2 ⟨rfl, hk2⟩; obtain ⟨hc2, hf2⟩ := bcell hk2.2; have hcx := HC3.out w1 w2 hk1 hk2))
      go_quiet (fail)
      go_wp2_with fail
      go_returns
      refine ⟨_, ?_, (((HQ.out.alloc _).call hk1).call hk2).drewN _, ((hkc.trans ((Kept.mk htc ((Below.refl _ _).alloc (Nat.le_refl _) _)).trans hk1)).trans hk2).drewN _⟩
      rw [HS.out, HL.out]
      simp [HR.out]
set_option maxRecDepth 100000 in
set_option maxHeartbeats 4000000 in
theorem cut_full (neg more : Bool) (n j b off : Nat) (MA MB : List Int) (k e : Int) (len : Nat) (w : World) (ht : Tab w) (HA : Hid (Sl w (.slice (some ⟨b, off, none⟩) 0 0) MA)) (HB : Hid (Sl w (.slice (some ⟨b, off, none⟩) (j + 1) (j + 1)) MB))
    (HDA : Hid (Dl MA)) (HDB : Hid (Dl MB)) (HLA : Hid (MA.length ≤ 1000000)) (HLB : Hid (MB.length ≤ 1000000)) (HVA : Hid (lv MB = n % 10 ^ (j + 1) ∧ lv MA = n / 10 ^ (j + 1)))
    (k1 : k - 1 = (j : Int)) (k2 : k.toNat = j + 1) (k3 : (0 : Int) ≤ k) (k4 : k ≤ (len : Int)) (hc' : len ≤ (j + 1)) (_hm : (j + 1) ≤ 2 ^ 63 - 1) (_hb : b < w.heap.size) (hj : j ≤ 100000) :
    Calls Tryd.prog 75 #[.agg #[.bool neg, .slice (some ⟨b, off, none⟩) len (j + 1), .int .i64 e, .bool more], .int .i64 k] w fun x w' => ∃ v', x = .returned (.tuple #[v', .int .i64 (cutS n j more), .bool (cutL n j more)]) ∧ Sl w' v' (ds (n / 10 ^ (j + 1))) ∧ Kept w w' := by
  have hlt := ht.lt
  have hlt0 := ht.lt0
  have k5 : k ≤ (j : Int) + 1 := by omega
  go_enter Tryd.func75, Tryd.ntmps75
  go_upto_region 3 with fail
  go_cut [7, 8] (fun c7 c8 wx => ∃ q7 q8 : Value, q7 = c7 ∧ q8 = c8 ∧ Sl wx q7 (ds (lv MA)) ∧ Sl wx q8 (ds (lv MB)) ∧ Below (w.heap.size + 1) (w.alloc (.cells #[.bool neg, .slice (some ⟨b, off, none⟩) len (j + 1), .int .i64 e, .bool more] 53)) wx)
  case first =>
    go_region_held3 (fun w' => Below (w.heap.size + 1) (w.alloc (.cells #[.bool neg, .slice (some ⟨b, off, none⟩) len (j + 1), .int .i64 e, .bool more] 53)) w' ∧ w'.cell? ⟨w.heap.size, 1, none⟩ = some (.slice (some ⟨b, off, none⟩) len (j + 1)) ∧ w'.cell? ⟨w.heap.size, 3, none⟩ = some (.bool more))
      ((refine cut_pack ?_; (focus (repeat' (first | (with_reducible exact Below.refl _ _) | (with_reducible refine Below.trans ?_ (Below.mono hb1 ?_)) | (with_reducible refine Below.trans ?_ (Below.mono hb2 ?_)) | (with_reducible refine Below.alloc ?_ ?_ _) | (with_reducible refine Below.drew ?_) | omega | (simp only [World.size_alloc, sz_drew]; omega))))))
      (first
        | ((refine stepE rfl (.tmp 16) (.tmp 20) rfl _ (.slice (some ⟨b, off, none⟩) 0 0) MA rfl rfl HLA.out ?_ ?_ ?_); (focus (first | (simp only [World.size_alloc, sz_drew]; omega) | omega)); (focus (repeat' (first | assumption | (with_reducible refine Sl.below ?_ hb1) | (with_reducible refine Sl.below ?_ hb2) | (with_reducible refine Sl.alloc ?_ _) | (with_reducible refine Sl.drew ?_) | (with_reducible exact HA.out) | (with_reducible exact HB.out) | (with_reducible exact HA.out.cast (by simp)) | (with_reducible exact HB.out.cast (by simp))))); intro v1 w1 hs1 hb1; have hz1 := hb1.size; (try simp only [World.size_alloc] at hz1); (try simp only [sz_drew] at hz1); (try simp only [World.size_alloc] at hz1))
        | ((refine stepE rfl (.tmp 23) (.tmp 27) rfl _ (.slice (some ⟨b, off, none⟩) (j + 1) (j + 1)) MB rfl rfl HLB.out ?_ ?_ ?_); (focus (first | (simp only [World.size_alloc]; omega) | omega)); (focus (repeat' (first | assumption | (with_reducible refine Sl.below ?_ hb1) | (with_reducible refine Sl.below ?_ hb2) | (with_reducible refine Sl.alloc ?_ _) | (with_reducible refine Sl.drew ?_) | (with_reducible exact HA.out) | (with_reducible exact HB.out) | (with_reducible exact HA.out.cast (by simp)) | (with_reducible exact HB.out.cast (by simp))))); intro v2 w2 hs2 hb2; have hz2 := hb2.size; (try simp only [World.size_alloc] at hz2); (try simp only [sz_drew] at hz2); (try simp only [World.size_alloc] at hz2))
        | (go_at_call 81; (with_reducible refine Calls.mono (trim_same v1 MA _ HDA.out HLA.out ?_) ?_); (focus (repeat' (first | assumption | (with_reducible refine Sl.below ?_ hb1) | (with_reducible refine Sl.below ?_ hb2) | (with_reducible refine Sl.alloc ?_ _) | (with_reducible refine Sl.drew ?_) | (with_reducible exact HA.out) | (with_reducible exact HB.out) | (with_reducible exact HA.out.cast (by simp)) | (with_reducible exact HB.out.cast (by simp))))); rintro e w' ⟨q1, rfl, hq1, rfl⟩)
        | (go_at_call 81; (with_reducible refine Calls.mono (trim_same v2 MB _ HDB.out HLB.out ?_) ?_); (focus (repeat' (first | assumption | (with_reducible refine Sl.below ?_ hb1) | (with_reducible refine Sl.below ?_ hb2) | (with_reducible refine Sl.alloc ?_ _) | (with_reducible refine Sl.drew ?_) | (with_reducible exact HA.out) | (with_reducible exact HB.out) | (with_reducible exact HA.out.cast (by simp)) | (with_reducible exact HB.out.cast (by simp))))); rintro e w' ⟨q2, rfl, hq2, rfl⟩))
    all_goals
      go_wp2_with fail
      go_meet
      (refine ⟨_, _, rfl, rfl, ?_, ?_, ?_⟩)
      · (focus (repeat' (first | assumption | (with_reducible refine Sl.below ?_ hb1) | (with_reducible refine Sl.below ?_ hb2) | (with_reducible refine Sl.alloc ?_ _) | (with_reducible refine Sl.drew ?_) | (with_reducible exact HA.out) | (with_reducible exact HB.out) | (with_reducible exact HA.out.cast (by simp)) | (with_reducible exact HB.out.cast (by simp)))))
      · (focus (repeat' (first | assumption | (with_reducible refine Sl.below ?_ hb1) | (with_reducible refine Sl.below ?_ hb2) | (with_reducible refine Sl.alloc ?_ _) | (with_reducible refine Sl.drew ?_) | (with_reducible exact HA.out) | (with_reducible exact HB.out) | (with_reducible exact HA.out.cast (by simp)) | (with_reducible exact HB.out.cast (by simp)))))
      · (focus (repeat' (first | (with_reducible exact Below.refl _ _) | (with_reducible refine Below.trans ?_ (Below.mono hb1 ?_)) | (with_reducible refine Below.trans ?_ (Below.mono hb2 ?_)) | (with_reducible refine Below.alloc ?_ ?_ _) | (with_reducible refine Below.drew ?_) | omega | (simp only [World.size_alloc, sz_drew]; omega))))
  case rest =>
    obtain ⟨q7, q8, rfl, rfl, hs7, hs8, hbw⟩ := hcut
    obtain ⟨-, -, hc3⟩ := cut_pack hbw
    rw [HVA.out.2] at hs7
    rw [HVA.out.1] at hs8
    have hbk : Below w.heap.size w wc := ((Below.refl _ _).alloc (Nat.le_refl _) _).trans (hbw.mono (Nat.le_succ _))
    have htc := ht.of_below hbk
    have hkc : Kept w wc := Kept.mk ht hbk
    have hzc : w.heap.size + 1 ≤ wc.heap.size := by have := hbw.size; simpa using this
    have HQ := Lib.hid hs7
    have HC3 : Hid (∀ w1 w2, Kept (wc.alloc (.cells #[.int .i64 5] 3)) w1 → Kept w1 w2 → w2.cell? ⟨w.heap.size, 3, none⟩ = some (.bool more)) := Lib.hid (fun w1 w2 k1 k2 => by
      have hz := k1.2.size
      rw [World.size_alloc] at hz
      rw [k2.2.cell (p := ⟨w.heap.size, 3, none⟩) (show w.heap.size < _ by omega), k1.2.cell (p := ⟨w.heap.size, 3, none⟩) (show w.heap.size < _ by rw [World.size_alloc]; omega), ((Below.refl wc.heap.size wc).alloc (Nat.le_refl _) _).cell (p := ⟨w.heap.size, 3, none⟩) (show w.heap.size < _ by omega)]
      exact hc3)
    clear hc3
    have hdr := dg_mod n (j + 1)
    obtain ⟨r, hr⟩ : ∃ r, n % 10 ^ (j + 1) = r := ⟨_, rfl⟩
    obtain ⟨c, hcc⟩ : ∃ c, cmpN r (5 * 10 ^ j) = c := ⟨_, rfl⟩
    have HS : Hid (cutS n j more = if c = 0 ∧ more = true then 2 else c + 1) := Lib.hid (by unfold cutS; rw [hr, hcc])
    have HL : Hid (cutL n j more = (decide (r ≠ 0) || more)) := Lib.hid (by unfold cutL; rw [hr])
    have hc0 : c = -1 ∨ c = 0 ∨ c = 1 := by rw [← hcc]; exact cmpN_or _ _
    rw [hr] at hs8 hdr
    have HSH := Lib.hid (refshift (.slice (some ⟨wc.heap.size, 0, none⟩) 1 1) 5 j (wc.alloc (.cells #[.int .i64 5] 3)) (htc.of_below ((Below.refl _ _).alloc (Nat.le_refl _) _)) (Sl.five wc) dg_five hj)
    have HCM : Hid (∀ W v1, Tab W → Sl W v1 (ds (5 * 10 ^ j)) → Sl W q8 (ds r) → Calls Tryd.prog 79 #[q8, v1] W fun e w' => e = .returned (.int .i64 c) ∧ Kept W w') := Lib.hid (fun W v1 a b d => by rw [← hcc]; exact refcmp q8 v1 r _ W a d b (by omega))
    obtain ⟨b8, o8, cap8, rfl, p8, z8, r8, s8⟩ := id hs8
    have HS8 := Lib.hid hs8
    have hln : (ds r).length = 0 ∧ r = 0 ∨ 0 < (ds r).length ∧ r ≠ 0 := by
      rw [ds_len]
      by_cases h0 : r = 0
      · subst h0; exact Or.inl ⟨dg_zero, rfl⟩
      · have := dg_ne h0; exact Or.inr ⟨by omega, h0⟩
    clear p8 z8 s8 hs8 hr hcc hdr HA HB HDA HDB HLA HLB HVA hs7 hbw hc' _hm k2 k3 k4 k5 _hb
    generalize (ds r).length = ln at *
    rcases hc0 with rfl | rfl | rfl <;> rcases hln with ⟨rfl, hr0⟩ | ⟨hl0, hr0⟩ <;> cases more
    all_goals
      have HR := Lib.hid hr0
      clear hr0
      go_upto_region 7 with (first
        | (go_at_call 47; (with_reducible refine HSH.out.mono ?_); rintro e w1 ⟨v1, rfl, hv1, hk1⟩; obtain ⟨hc1, hf1⟩ := bcell hk1.2; have ht1 := hk1.1; have hs81 := (HS8.out.alloc (.cells #[.int .i64 5] 3)).call hk1; have hz1 := hk1.2.size; (try simp only [World.size_alloc] at hz1); (try simp only [World.size_alloc] at hc1 hf1))
        | (go_at_call 79; (with_reducible refine (HCM.out _ v1 ht1 hv1 hs81).mono ?_); rintro e w2 ⟨rfl, hk2⟩; obtain ⟨hc2, hf2⟩ := bcell hk2.2; have hcx := HC3.out w1 w2 hk1 hk2))
      go_quiet (fail)
      go_wp2_with fail
      go_returns
      refine ⟨_, ?_, (((HQ.out.alloc _).call hk1).call hk2).drewN _, ((hkc.trans ((Kept.mk htc ((Below.refl _ _).alloc (Nat.le_refl _) _)).trans hk1)).trans hk2).drewN _⟩
      rw [HS.out, HL.out]
      simp [HR.out]
set_option maxRecDepth 100000 in
set_option maxHeartbeats 4000000 in
theorem cut_far (neg more : Bool) (k e : Int) (b off len cap : Nat) (w : World) (ht : Tab w) (hk : (len : Int) < k) :
    Calls Tryd.prog 75 #[.agg #[.bool neg, .slice (some ⟨b, off, none⟩) len cap, .int .i64 e, .bool more], .int .i64 k] w fun x w' => ∃ v', x = .returned (.tuple #[v', .int .i64 0, .bool true]) ∧ Sl w' v' (ds 0) ∧ Kept w w' := by
  have hlt := ht.lt
  have hlt0 := ht.lt0
  have hd : decide ((len : Int) < k) = true := decide_eq_true hk
  go_enter Tryd.func75, Tryd.ntmps75
  go_wp2_with fail
  go_returns
  exact ⟨_, rfl, ⟨w.heap.size + 1, 0, 0, by rw [ds_zero]; rfl, by rw [ds_zero]; exact Nat.le_refl _, by decide, by simp, fun j u hj => by rw [ds_zero] at hj; simp at hj⟩, Kept.mk ht (((Below.refl _ _).alloc (Nat.le_refl _) _).alloc (by simp) _)⟩
/-- cut, of a slice that reads as the digits of a number. -/
theorem refcut (neg more : Bool) (n j : Nat) (k e : Int) (v : Value) (w : World) (ht : Tab w) (h : Sl w v (ds n)) (hn : dg n ≤ 100000) (hkj : k = (j : Int) + 1) (hj : j ≤ 100000) (h0 : n ≠ 0 ∨ more = true) :
    Calls Tryd.prog 75 #[.agg #[.bool neg, v, .int .i64 e, .bool more], .int .i64 k] w fun x w' => ∃ v', x = .returned (.tuple #[v', .int .i64 (cutS n j more), .bool (cutL n j more)]) ∧ Sl w' v' (ds (n / 10 ^ (j + 1))) ∧ Kept w w' := by
  obtain ⟨b, off, cap, rfl, hc, hm, hb, hg⟩ := h
  have hln := ds_len n
  by_cases hk : j + 1 ≤ dg n
  · have HB : Hid (Sl w (.slice (some ⟨b, off, none⟩) (j + 1) cap) ((ds n).take (j + 1))) := by
      have hlen : ((ds n).take (j + 1)).length = j + 1 := by rw [List.length_take, ds_len]; omega
      refine Lib.hid ⟨b, off, cap, by rw [hlen], by rw [hlen]; rw [ds_len] at hc; omega, hm, hb, fun i u hi => ?_⟩
      rw [List.getElem?_take] at hi
      split at hi
      · exact hg i u hi
      · cases hi
    have HLA : Hid (((ds n).drop (j + 1)).length ≤ 1000000) := Lib.hid (by rw [List.length_drop, ds_len]; omega)
    have HLB : Hid (((ds n).take (j + 1)).length ≤ 1000000) := Lib.hid (by rw [List.length_take, ds_len]; omega)
    have hm' : cap ≤ 2 ^ 63 - 1 := by unfold maxLen at hm; exact hm
    by_cases hcj : cap = j + 1
    · subst hcj
      have hnil : (ds n).drop (j + 1) = [] := List.drop_of_length_le (by omega)
      exact cut_full neg more n j b off _ _ k e _ w ht (Lib.hid ⟨b, off, 0, by rw [hnil]; rfl, by rw [hnil]; exact Nat.le_refl _, by decide, hb, fun i u hi => by rw [hnil] at hi; simp at hi⟩) HB (Lib.hid ((ds_dl n).drop (j + 1))) (Lib.hid ((ds_dl n).take (j + 1))) HLA HLB (Lib.hid (lv_cut hk)) (by omega) (by omega) (by omega) (by omega) hc hm' hb hj
    · exact cut_near neg more n j b off cap _ _ k e _ w ht (Lib.hid ⟨b, off + (j + 1), cap - (j + 1), by rw [List.length_drop], by rw [List.length_drop]; omega, by omega, hb, fun i u hi => by
        rw [List.getElem?_drop] at hi
        have := hg _ u hi
        rw [show off + (j + 1) + i = off + (j + 1 + i) by omega]
        exact this⟩) HB (Lib.hid ((ds_dl n).drop (j + 1))) (Lib.hid ((ds_dl n).take (j + 1))) HLA HLB (Lib.hid (lv_cut hk)) (by omega) (by omega) (by omega) (by omega) hc hm' hb hj hcj
  · have hlt : n < 10 ^ j := Nat.lt_of_lt_of_le ((dg_iff n (dg n)).1 (Nat.le_refl _)) (Nat.pow_le_pow_right (by omega) (by omega))
    have hs : 10 ^ (j + 1) = 10 ^ j * 10 := Nat.pow_succ ..
    have hq : n / 10 ^ (j + 1) = 0 := Nat.div_eq_of_lt (by omega)
    have hr : n % 10 ^ (j + 1) = n := Nat.mod_eq_of_lt (by omega)
    have hcm : cmpN n (5 * 10 ^ j) = -1 := by unfold cmpN; rw [if_pos (by omega)]
    have e1 : cutS n j more = 0 := by unfold cutS; rw [hr, hcm]; rfl
    have e2 : cutL n j more = true := by
      unfold cutL; rw [hr]
      rcases h0 with h0 | h0
      · simp [h0]
      · simp [h0]
    rw [e1, e2, hq]
    exact cut_far neg more k e b off _ cap w ht (by omega)
end Go.Proofs.YtanfhlkfmmglhaaDoor
