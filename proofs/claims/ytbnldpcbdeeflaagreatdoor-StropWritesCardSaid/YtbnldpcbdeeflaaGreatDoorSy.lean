/- Symbols: the list of symbols of a text, or its first fault. Condition: the tables hold what they are laid with. -/
import Derived.Test.YtbnldpcbdeeflaaGreatDoorSp
import Derived.Test.YtbnldpcbdeeflaaGreatDoorGRb
namespace Go.Proofs.YtbnldpcbdeeflaaGreatDoor
open Go.ChangeShapes Go.WideShapes Go.ChangeAt Go.RowKit

/-- What Symbols returns: where a fault is, its code, the list. -/
def syF (r : Int) (t : ByteArray) : Int × Int × List Sy :=
  if 0 ≤ r ∧ r ≤ 2 then (if t.size ≤ 65536 then (if (syL r t (sk t 0) []).2.1 = 0 then (0, 0, (syL r t (sk t 0) []).2.2 ++ [(0, ⟨#[]⟩, (t.size : Int))]) else ((syL r t (sk t 0) []).1, (syL r t (sk t 0) []).2.1, [])) else (0, 3, [])) else (0, 1, [])
def SyP (w : World) (R : Int × Int × List Sy) (x : Ending) (w' : World) : Prop :=
  ∃ v, x = .returned (.tuple #[v, .agg #[.int .i64 R.1, .int .i64 R.2.1]]) ∧ Sl w' (w.heap.size + 1) v R.2.2 ∧ Below w.heap.size w w'
theorem Sl.nil (w : World) (B : Nat) : Sl w B (.slice none 0 0) [] := World.ownsRow_nil _ _ _ _
theorem results_tmp_cell {fn : Func} {p u : Tmp} {ty : TypeId} (h : fn.results = #[.tmp u, .cell p ty]) (tmps : Array Value) (P : Program) (w : World) :
    (results fn tmps).run P w =
      ((asAddr (tmps.getD p undef)).run P w).andThen fun a w₁ => ((loadVar ty a).run P w₁).andThen fun v w₂ => .ok (.tuple #[tmps.getD u undef, v]) w₂ := by
  simp only [results, h]
  simp [Sem.run_bind, Result.andThen]
theorem ret_tmp_own {P : Program} {fn : Func} {p u : Tmp} {ty : TypeId} (h : fn.results = #[.tmp u, .cell p ty]) {tmps : Array Value} {w : World} {g : Nat} {t : TypeId} {l : List Value} {d : TypeDesc}
    (hg : Own w g t l) (hp : tmps.getD p undef = .pointer (some ⟨g, 0, none⟩))
    (hu : P.underlying ty = some d) (hd : (match d with | .struct _ | .array _ _ => true | _ => false) = true) (hi : (P.info? ty).map (·.size) = some l.toArray.size) :
    (results fn tmps).run P w = .ok (.tuple #[tmps.getD u undef, .agg l.toArray]) w := by
  rw [results_tmp_cell h, hp]
  simp [asAddr, run_loadVar_row w g t ty l.toArray (0, 0) d hg hu hd hi, Result.andThen]
theorem sy_end {r : Int} {t : ByteArray} {a : Nat} {l : List Sy} (h : t.size ≤ a) : syL r t a l = (0, 0, l) := by
  rw [syL, dif_neg (fun h => by omega), if_neg (by omega)]
theorem sy_bad {r : Int} {t : ByteArray} {a : Nat} {l : List Sy} (h : a < t.size) (k : (stR r t a l).c ≠ 0) : syL r t a l = ((stR r t a l).p, (stR r t a l).c, []) := by
  rw [syL, dif_neg (fun h => k h.2), if_pos h]
theorem sy_go {r : Int} {t : ByteArray} {a : Nat} {l : List Sy} (h : a < t.size) (k : (stR r t a l).c = 0) {n : Nat} (hn : (stR r t a l).a = (n : Int)) : syL r t a l = syL (stR r t a l).r t (sk t n) (stR r t a l).l := by
  rw [syL, dif_pos ⟨h, k⟩, hn, Int.toNat_natCast]
theorem reg_any (r : Int) (w : World) : Calls Tryz.prog 20 #[.int .i64 r] w fun e w' => e = .returned (.bool (decide (0 ≤ r ∧ r ≤ 2))) ∧ w = w' := by
  rcases (by omega : (0 ≤ r ∧ r ≤ 2) ∨ r < 0 ∨ (0 ≤ r ∧ 2 < r)) with ⟨k0, k1⟩ | k0 | ⟨k0, k1⟩
  · rw [decide_eq_true ⟨k0, k1⟩]
    have h1 : decide (0 ≤ r) = true := decide_eq_true k0
    have h2 : decide (r ≤ 2) = true := decide_eq_true k1
    go_enter Tryz.func20, Tryz.ntmps20
    go_wp2
    go_returns
    exact ⟨rfl, rfl⟩
  · rw [decide_eq_false (by omega)]
    have h1 : decide (0 ≤ r) = false := decide_eq_false (by omega)
    go_enter Tryz.func20, Tryz.ntmps20
    go_wp2
    go_returns
    exact ⟨rfl, rfl⟩
  · rw [decide_eq_false (by omega)]
    have h1 : decide (0 ≤ r) = true := decide_eq_true k0
    have h2 : decide (r ≤ 2) = false := decide_eq_false (by omega)
    go_enter Tryz.func20, Tryz.ntmps20
    go_wp2
    go_returns
    exact ⟨rfl, rfl⟩
theorem sy_arg (t : ByteArray) (r : Int) (w : World) (h : ¬ (0 ≤ r ∧ r ≤ 2)) : Calls Tryz.prog 10 #[.string t, .int .i64 r] w (SyP w (0, 1, [])) := by
  have HG := Lib.hid (fun w => reg_any r w)
  rw [decide_eq_false h] at HG
  clear h
  go_enter Tryz.func10, Tryz.ntmps10
  go_wp2_with (first | (go_at_call 20; (with_reducible refine (HG.out _).mono ?_); rintro e w' ⟨rfl, rfl⟩))
  have hF := Own.new w 26 [.int .i64 0, .int .i64 1]
  refine bodyPost_ret (ret_tmp_own rfl hF rfl Tryz.underlying26 rfl (by kernel_rfl)) rfl ?_
  exact ⟨_, rfl, Sl.nil _ _, (by repeat' (first | (with_reducible assumption) | (with_reducible exact Below.refl _ _) | (with_reducible refine Below.alloc ?_ ?_ _) | (with_reducible refine Below.setCell ?_ ?_ _) | (with_reducible refine Below.drew ?_) | (with_reducible refine Below.call ?_ ?_ (by assumption)) | (with_reducible exact Nat.le_refl _) | omega | (simp; done) | (simp; omega)))⟩
theorem sy_lim (t : ByteArray) (r : Int) (w : World) (h : 0 ≤ r ∧ r ≤ 2) (hz : 65536 < t.size) : Calls Tryz.prog 10 #[.string t, .int .i64 r] w (SyP w (0, 3, [])) := by
  have HG := Lib.hid (fun w => reg_any r w)
  rw [decide_eq_true h] at HG
  have hz2 : decide ((t.size : Int) > 65536) = true := decide_eq_true (by omega)
  clear h
  go_enter Tryz.func10, Tryz.ntmps10
  go_wp2_with (first | (go_at_call 20; (with_reducible refine (HG.out _).mono ?_); rintro e w' ⟨rfl, rfl⟩))
  have hF := Own.new w 26 [.int .i64 0, .int .i64 3]
  refine bodyPost_ret (ret_tmp_own rfl hF rfl Tryz.underlying26 rfl (by kernel_rfl)) rfl ?_
  exact ⟨_, rfl, Sl.nil _ _, (by repeat' (first | (with_reducible assumption) | (with_reducible exact Below.refl _ _) | (with_reducible refine Below.alloc ?_ ?_ _) | (with_reducible refine Below.setCell ?_ ?_ _) | (with_reducible refine Below.drew ?_) | (with_reducible refine Below.call ?_ ?_ (by assumption)) | (with_reducible exact Nat.le_refl _) | omega | (simp; done) | (simp; omega)))⟩
set_option maxHeartbeats 4000000 in
theorem sy_run (t : ByteArray) (r : Int) (w : World) (h : 0 ≤ r ∧ r ≤ 2) (hz : t.size ≤ 65536) (hM : Mx w) (hG : Sg w) (hgb : 0 < w.heap.size) (R : Int × Int × List Sy) (hR : syL r t (sk t 0) [] = R) :
    Calls Tryz.prog 10 #[.string t, .int .i64 r] w (SyP w (if R.2.1 = 0 then (0, 0, R.2.2 ++ [(0, ⟨#[]⟩, (t.size : Int))]) else (R.1, R.2.1, []))) := by
  have HG := Lib.hid (fun w => reg_any r w)
  rw [decide_eq_true h] at HG
  have hz2 : decide ((t.size : Int) > 65536) = false := decide_eq_false (by omega)
  have hl : t.size ≤ 100000 := by omega
  have HMW : Hid (∀ W, Below w.heap.size w W → Mx W) := Lib.hid (fun W hb => hM.call hb)
  have HGW : Hid (∀ W, Below w.heap.size w W → Sg W) := Lib.hid (fun W hb i hi => (hb.cell (p := ⟨_, i, none⟩) hgb).trans (hG i hi))
  have hl0 := sk_le (t := t) (i := 0) (Nat.zero_le _)
  have hS0 : Sc ((w.alloc (.cells #[.int .i64 0, .int .i64 0] 26)).alloc (.cells #[.string t, .int .i64 r, .int .i64 (sk t 0 : Int), .slice none 0 0] 44)) (w.heap.size + 1) t r (sk t 0 : Int) (.slice none 0 0) := Own.new1 w _ 44 [.string t, .int .i64 r, .int .i64 (sk t 0 : Int), .slice none 0 0]
  have hR0 : Own ((w.alloc (.cells #[.int .i64 0, .int .i64 0] 26)).alloc (.cells #[.string t, .int .i64 r, .int .i64 (sk t 0 : Int), .slice none 0 0] 44)) w.heap.size 26 [.int .i64 0, .int .i64 0] := Own.alloc (Own.new w _ _) _
  have hB0 : Below w.heap.size w ((w.alloc (.cells #[.int .i64 0, .int .i64 0] 26)).alloc (.cells #[.string t, .int .i64 r, .int .i64 (sk t 0 : Int), .slice none 0 0] 44)) := ((Below.refl _ w).alloc (Nat.le_refl _) _).alloc (by simp) _
  have HK : Hid (∀ W, W.cell? ⟨w.heap.size + 1, 0, none⟩ = some (.string t) → Calls Tryz.prog 21 #[.pointer (some ⟨w.heap.size + 1, 0, none⟩), .int .i64 0] W fun e w' => e = .returned (.int .i64 (sk t 0 : Int)) ∧ W = w') := Lib.hid (fun W hc => skip_any t (w.heap.size + 1) 0 W hc hl (by omega))
  obtain ⟨Q, hQ⟩ : ∃ Q, (if R.2.1 = 0 then (0, 0, R.2.2 ++ [(0, ⟨#[]⟩, (t.size : Int))]) else (R.1, R.2.1, [])) = Q := ⟨_, rfl⟩
  rw [hQ]
  have HQ := Lib.hid hQ
  have HRR := Lib.hid hR
  have HZ := Lib.hid hz
  have HS0 := Lib.hid hS0
  have HR0 := Lib.hid hR0
  have HB0 := Lib.hid hB0
  have HL0 := Lib.hid hl0
  clear h hM hG hz hR hQ hS0 hR0 hB0 hl0
  go_enter Tryz.func10, Tryz.ntmps10
  go_wp2_with (first | (go_at_call 20; (with_reducible refine (HG.out _).mono ?_); rintro e w' ⟨rfl, rfl⟩) | (go_at_call 21; (with_reducible refine (HK.out _ ?_).mono ?_); (focus (simp; done)); rintro e w' ⟨rfl, rfl⟩))
  go_loopw [7] (fun _ wr => ∃ (r' : Int) (a : Nat) (l : List Sy) (v : Value), Sc wr (w.heap.size + 1) t r' (a : Int) v ∧ Sl wr (w.heap.size + 1) v l ∧ Own wr w.heap.size 26 [.int .i64 0, .int .i64 0] ∧ Below w.heap.size w wr ∧ a ≤ t.size ∧ l.length ≤ a ∧ syL r' t a l = R) (fun _ wr => t.size - (intOf ((wr.cell? ⟨w.heap.size + 1, 2, none⟩).getD (.int .i64 0))).toNat)
  case atStart => exact ⟨r, sk t 0, [], .slice none 0 0, HS0.out, Sl.nil _ _, HR0.out, HB0.out, HL0.out, Nat.zero_le _, HRR.out⟩
  case round =>
    obtain ⟨r', a, l, v, hS, hL, hR, hb, ha, hla, hsy⟩ := hrel
    have hz := HZ.out
    have c2 := hS.c2
    have hslt := hS.lt
    by_cases hlt : a < t.size
    · obtain ⟨RR, hRR⟩ : ∃ RR, stR r' t a l = RR := ⟨_, rfl⟩
      have HST := Lib.hid (step_any (w.heap.size + 1) (w.heap.size + 1) a t r' v l wr hS hL (Nat.le_refl _) hl (by omega) hlt (HMW.out wr hb) (HGW.out wr hb) (by have := hb.size; omega))
      rw [hRR] at HST
      by_cases hc : RR.c = 0
      · have hup := st_up (r := r') (l := l) hlt (by rw [hRR]; exact hc)
        rw [hRR] at hup
        obtain ⟨n, hn, hn1, hn2, hn3⟩ := hup
        have HN := Lib.hid (show syL RR.r t (sk t n) RR.l = R by rw [← hsy, sy_go hlt (by rw [hRR]; exact hc) (by rw [hRR]; exact hn), hRR])
        obtain ⟨r2, a2, l2, p2, k2⟩ := RR
        simp only at hc hn HN hn3
        subst hc hn
        have HRO := Lib.hid hR
        have HBB := Lib.hid hb
        have HC2 := Lib.hid c2
        clear hS hL hR hb hsy hRR
        go_wp2_with (first | (go_at_call 22; (with_reducible refine HST.out.mono ?_); (rintro e w1 ⟨rfl, ⟨v1, hS1, hL1⟩, hb1, hk1⟩); (have d2 : w1.cell? ⟨w.heap.size + 1, 2, none⟩ = some (.int .i64 (n : Int)) := Own.cell hS1 2); (have f1 := fun i => Own.frozen hS1 i); (have l1 := Own.lt hS1); (have HSK : Hid (∀ W, Below w1.heap.size w1 W → Calls Tryz.prog 21 #[.pointer (some ⟨w.heap.size + 1, 0, none⟩), .int .i64 (n : Int)] W fun e w' => e = .returned (.int .i64 (sk t n : Int)) ∧ W = w') := Lib.hid (fun W hb => skip_any t (w.heap.size + 1) n W (Sc.c0 (Own.kept hS1 hb)) hl (by omega))); (have HS1 := Lib.hid hS1); (have HL1 := Lib.hid hL1); (have HB1 := Lib.hid hb1); clear hS1 hL1 hb1 hk1) | (go_at_call 21; (with_reducible refine (HSK.out _ (by repeat' (first | (with_reducible assumption) | (with_reducible exact Below.refl _ _) | (with_reducible refine Below.alloc ?_ ?_ _) | (with_reducible refine Below.setCell ?_ ?_ _) | (with_reducible refine Below.drew ?_) | (with_reducible refine Below.call ?_ ?_ (by assumption)) | (with_reducible exact Nat.le_refl _) | omega | (simp; done) | (simp; omega)))).mono ?_); rintro e w' ⟨rfl, rfl⟩))
        go_roundw
        case rel =>
          have hsk := sk_ge t n
          have hz1 := HB1.out.size
          have n1 := Sl.ne HL1.out HS1.out (by decide)
          exact ⟨r2, sk t n, l2, v1, Own.alloc (Own.put HS1.out 2 (.int .i64 (sk t n : Int))) _, (HL1.out.far n1 _).alloc _, Own.alloc (Own.far (Own.below HRO.out HB1.out (Nat.lt_succ_self _)) (by simp) _) _, ((HBB.out.trans (HB1.out.mono (Nat.le_succ _))).setCell (p := ⟨w.heap.size + 1, 2, none⟩) (by show w.heap.size ≤ w.heap.size + 1; omega) _).alloc (by simp; omega) _, sk_le hn2, by omega, HN.out⟩
        case measure =>
          have hsk := sk_ge t n
          have e1 := Own.cell (Own.alloc (Own.put HS1.out 2 (.int .i64 (sk t n : Int))) (.cells #[.int .i64 p2, .int .i64 0] 26)) 2
          rw [e1, HC2.out]
          simp [intOf]
          omega
      · have HN := Lib.hid (show (RR.p, RR.c, []) = R by rw [← hsy, sy_bad hlt (by rw [hRR]; exact hc), hRR])
        obtain ⟨r2, a2, l2, p2, k2⟩ := RR
        simp only at hc HN
        have HNQ := Lib.hid (show Q = (p2, k2, []) by rw [← HQ.out, ← HN.out]; exact if_neg hc)
        have HRO := Lib.hid hR
        have HBB := Lib.hid hb
        have hk0 : (k2 != 0) = true := by rw [bne_iff_ne]; exact hc
        clear hS hL hR hb hsy hRR hc HN
        go_upto_region 11 with (go_at_call 22; (with_reducible refine HST.out.mono ?_); (rintro e w1 ⟨rfl, _, hb1, _⟩); (have hR1 := Own.below HRO.out hb1 (Nat.lt_succ_self _)); (have e0 : w1.cell? ⟨w.heap.size, 0, none⟩ = some (.int .i64 0) := Own.cell hR1 0); (have e1 : w1.cell? ⟨w.heap.size, 1, none⟩ = some (.int .i64 0) := Own.cell hR1 1); (have f1 := fun i => Own.frozen hR1 i); (have l1 := Own.lt hR1); (have HR1 := Lib.hid hR1); (have HB1 := Lib.hid (hb1.mono (Nat.le_succ _))); clear hR1 hb1)
        go_region
        go_wp2_with fail
        have hF := Own.drew (Own.alloc ((HR1.out.put 0 (.int .i64 p2)).put 1 (.int .i64 k2)) (.cells #[.int .i64 p2, .int .i64 k2] 26))
        refine bodyPost_ret (ret_tmp_own rfl hF rfl Tryz.underlying26 rfl (by kernel_rfl)) rfl ?_
        have hbt := HBB.out.trans HB1.out
        have hzt := hbt.size
        rw [HNQ.out]
        exact ⟨_, rfl, Sl.nil _ _, (by repeat' (first | (with_reducible assumption) | (with_reducible exact Below.refl _ _) | (with_reducible refine Below.alloc ?_ ?_ _) | (with_reducible refine Below.setCell ?_ ?_ _) | (with_reducible refine Below.drew ?_) | (with_reducible refine Below.call ?_ ?_ (by assumption)) | (with_reducible exact Nat.le_refl _) | omega | (simp; done) | (simp; omega)))⟩
    · have hge : t.size ≤ a := by omega
      have HNQ := Lib.hid (show Q = (0, 0, l ++ [(0, ⟨#[]⟩, (t.size : Int))]) by rw [← HQ.out, ← hsy, sy_end hge]; rfl)
      have HV : Hid (∀ k, v.ownBlock = some k → w.heap.size + 1 ≤ k ∧ k < wr.heap.size) := Lib.hid (fun k hk => World.ownsRow.lt hL k hk)
      have HRO := Lib.hid hR
      have HBB := Lib.hid hb
      have HLL := Lib.hid hL
      have hwz : w.heap.size + 1 ≤ wr.heap.size := by omega
      have hlz : l.length ≤ 1000000 := by omega
      have c3 := hS.c3
      clear hS hL hR hb hsy
      go_wp2_with (at_builtin; refine appS rfl _ _ rfl wr (w.heap.size + 1) v l (0, ⟨#[]⟩, (t.size : Int)) ?_ ?_ HLL.out hlz hwz ?_; rfl; rfl; intro g2 cap2 w2 hs2 hg2; (have hz2 := hg2.size); (simp only [World.size_alloc] at hz2); (have hR1 := Own.grown (Own.alloc HRO.out _) hg2 (fun e => absurd (HV.out _ e).1 (by omega))); (have e0 : w2.cell? ⟨w.heap.size, 0, none⟩ = some (.int .i64 0) := Own.cell hR1 0); (have e1 : w2.cell? ⟨w.heap.size, 1, none⟩ = some (.int .i64 0) := Own.cell hR1 1); (have f1 := fun i => Own.frozen hR1 i); (have l1 := Own.lt hR1); (have HR1 := Lib.hid hR1); clear hR1)
      have hF := (HR1.out.put 0 (.int .i64 0)).put 1 (.int .i64 0)
      refine bodyPost_ret (ret_tmp_own rfl hF rfl Tryz.underlying26 rfl (by kernel_rfl)) rfl ?_
      rw [HNQ.out]
      have n1 := Sl.ne hs2 HR1.out (by decide)
      have hb2 : Below w.heap.size w w2 := (HBB.out.alloc (by omega) _).grown hg2 (by simp; omega) (fun k hk => Nat.le_of_succ_le (HV.out k hk).1)
      exact ⟨_, rfl, (hs2.far n1 _).far n1 _, (hb2.setCell (p := ⟨w.heap.size, 0, none⟩) (Nat.le_refl _) _).setCell (p := ⟨w.heap.size, 1, none⟩) (Nat.le_refl _) _⟩
theorem symbols_any (t : ByteArray) (r : Int) (w : World) (hM : Mx w) (hG : Sg w) (hgb : 0 < w.heap.size) : Calls Tryz.prog 10 #[.string t, .int .i64 r] w (SyP w (syF r t)) := by
  unfold syF
  by_cases h : 0 ≤ r ∧ r ≤ 2
  · rw [if_pos h]
    by_cases hz : t.size ≤ 65536
    · rw [if_pos hz]; exact sy_run t r w h hz hM hG hgb _ rfl
    · rw [if_neg hz]; exact sy_lim t r w h (by omega)
  · rw [if_neg h]; exact sy_arg t r w h
end Go.Proofs.YtbnldpcbdeeflaaGreatDoor
