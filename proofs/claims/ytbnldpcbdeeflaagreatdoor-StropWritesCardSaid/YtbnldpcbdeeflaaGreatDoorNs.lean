/- The reference's Symbols returns what the program's returns. No condition. -/
import Derived.Test.YtbnldpcbdeeflaaGreatDoorNy
import Derived.Test.YtbnldpcbdeeflaaGreatDoorSy
namespace Go.Proofs.YtbnldpcbdeeflaaGreatDoor
open Go.ChangeShapes Go.WideShapes Go.ChangeAt Go.RowKit

theorem pg_reg {r : Int} {x : ByteArray} (h : 0 ≤ r ∧ r ≤ 2) : 0 ≤ pgR r x ∧ pgR r x ≤ 2 := by
  unfold pgR
  split
  · omega
  · split
    · omega
    · split
      · omega
      · exact h
theorem sh_reg {r a z k : Int} {x : ByteArray} {l : List Sy} (h : 0 ≤ r ∧ r ≤ 2) : 0 ≤ (shR r a z k x l).r ∧ (shR r a z k x l).r ≤ 2 := by
  unfold shR
  split <;> exact h
theorem rm_reg {r a : Int} {t x : ByteArray} {f : Nat} {b : Bool} {l : List Sy} (h : 0 ≤ r ∧ r ≤ 2) : 0 ≤ (rmR r t x a f b l).r ∧ (rmR r t x a f b l).r ≤ 2 := by
  unfold rmR
  split
  · cases b
    · exact h
    · exact pg_reg h
  · exact h
theorem st_reg {r : Int} {t : ByteArray} {a : Nat} {l : List Sy} (h : 0 ≤ r ∧ r ≤ 2) : 0 ≤ (stR r t a l).r ∧ (stR r t a l).r ≤ 2 := by
  unfold stR
  split
  · exact h
  split
  · unfold quR; split <;> exact h
  split
  · unfold fmR; split <;> exact h
  split
  · unfold nuR
    split
    · exact h
    · split <;> exact h
  split
  · exact sh_reg h
  split
  · unfold snR
    split <;> exact h
  · unfold wdR
    split
    · exact rm_reg h
    split
    · exact rm_reg h
    · exact sh_reg h
theorem nx_go {r : Int} {t : ByteArray} {a : Nat} {l : List Sy} (hr : 0 ≤ r ∧ r ≤ 2) (ha : a < t.size) : ((nxR r t a l).c = 0 → ∃ n : Nat, (nxR r t a l).a = (n : Int) ∧ a < n ∧ n ≤ t.size ∧ (nxR r t a l).l.length ≤ l.length + 1 ∧ syL (nxR r t a l).r t (sk t n) (nxR r t a l).l = syL r t (sk t a) l ∧ 0 ≤ (nxR r t a l).r ∧ (nxR r t a l).r ≤ 2) ∧ ((nxR r t a l).c ≠ 0 → syL r t (sk t a) l = ((nxR r t a l).p, (nxR r t a l).c, [])) := by
  unfold nxR
  cases hb : bBl (pk t a)
  · have hs : sk t a = a := ru_no hb
    rw [if_neg (by decide), hs]
    refine ⟨fun h => ?_, fun h => ?_⟩
    · obtain ⟨n, h1, h2, h3, h4⟩ := st_up ha h
      have := st_reg (t := t) (a := a) (l := l) hr
      exact ⟨n, h1, h2, h3, h4, (sy_go ha h h1).symm, this.1, this.2⟩
    · exact sy_bad ha h
  · have hs : sk t a = sk t (a + 1) := ru_yes hb
    rw [if_pos rfl, hs]
    exact ⟨fun _ => ⟨a + 1, by simp, by omega, by omega, by simp, rfl, hr.1, hr.2⟩, fun h => absurd rfl h⟩
theorem rsy_arg0 (t : ByteArray) (r : Int) (w : World) (h : r < 0) : Calls Tryz.prog 11 #[.string t, .int .i64 r] w (SyP w (0, 1, [])) := by
  have h1 : decide (r < 0) = true := decide_eq_true h
  clear h
  go_enter Tryz.func11, Tryz.ntmps11
  go_wp2
  have hF := Own.new w 26 [.int .i64 0, .int .i64 1]
  refine bodyPost_ret (ret_tmp_own rfl hF rfl Tryz.underlying26 rfl (by kernel_rfl)) rfl ?_
  exact ⟨_, rfl, Sl.nil _ _, (by repeat' (first | (with_reducible assumption) | (with_reducible exact Below.refl _ _) | (with_reducible refine Below.alloc ?_ ?_ _) | (with_reducible refine Below.setCell ?_ ?_ _) | (with_reducible refine Below.drew ?_) | (with_reducible refine Below.call ?_ ?_ (by assumption)) | (with_reducible exact Nat.le_refl _) | omega | (simp; done) | (simp; omega)))⟩
theorem rsy_arg2 (t : ByteArray) (r : Int) (w : World) (h : 2 < r) : Calls Tryz.prog 11 #[.string t, .int .i64 r] w (SyP w (0, 1, [])) := by
  have h1 : decide (r < 0) = false := decide_eq_false (by omega)
  have h2 : decide (r > 2) = true := decide_eq_true h
  clear h
  go_enter Tryz.func11, Tryz.ntmps11
  go_wp2
  have hF := Own.new w 26 [.int .i64 0, .int .i64 1]
  refine bodyPost_ret (ret_tmp_own rfl hF rfl Tryz.underlying26 rfl (by kernel_rfl)) rfl ?_
  exact ⟨_, rfl, Sl.nil _ _, (by repeat' (first | (with_reducible assumption) | (with_reducible exact Below.refl _ _) | (with_reducible refine Below.alloc ?_ ?_ _) | (with_reducible refine Below.setCell ?_ ?_ _) | (with_reducible refine Below.drew ?_) | (with_reducible refine Below.call ?_ ?_ (by assumption)) | (with_reducible exact Nat.le_refl _) | omega | (simp; done) | (simp; omega)))⟩
theorem rsy_lim (t : ByteArray) (r : Int) (w : World) (h : 0 ≤ r ∧ r ≤ 2) (hz : 65536 < t.size) : Calls Tryz.prog 11 #[.string t, .int .i64 r] w (SyP w (0, 3, [])) := by
  have h1 : decide (r < 0) = false := decide_eq_false (by omega)
  have h2 : decide (r > 2) = false := decide_eq_false (by omega)
  have hz2 : decide ((t.size : Int) > 65536) = true := decide_eq_true (by omega)
  clear h
  go_enter Tryz.func11, Tryz.ntmps11
  go_wp2
  have hF := Own.new w 26 [.int .i64 0, .int .i64 3]
  refine bodyPost_ret (ret_tmp_own rfl hF rfl Tryz.underlying26 rfl (by kernel_rfl)) rfl ?_
  exact ⟨_, rfl, Sl.nil _ _, (by repeat' (first | (with_reducible assumption) | (with_reducible exact Below.refl _ _) | (with_reducible refine Below.alloc ?_ ?_ _) | (with_reducible refine Below.setCell ?_ ?_ _) | (with_reducible refine Below.drew ?_) | (with_reducible refine Below.call ?_ ?_ (by assumption)) | (with_reducible exact Nat.le_refl _) | omega | (simp; done) | (simp; omega)))⟩
set_option maxRecDepth 100000 in
set_option maxHeartbeats 8000000 in
theorem rsy_run (t : ByteArray) (r : Int) (w : World) (h : 0 ≤ r ∧ r ≤ 2) (hz : t.size ≤ 65536) (R : Int × Int × List Sy) (hR : syL r t (sk t 0) [] = R) :
    Calls Tryz.prog 11 #[.string t, .int .i64 r] w (SyP w (if R.2.1 = 0 then (0, 0, R.2.2 ++ [(0, ⟨#[]⟩, (t.size : Int))]) else (R.1, R.2.1, []))) := by
  have h1 : decide (r < 0) = false := decide_eq_false (by omega)
  have h2 : decide (r > 2) = false := decide_eq_false (by omega)
  have hz2 : decide ((t.size : Int) > 65536) = false := decide_eq_false (by omega)
  have hl : t.size ≤ 100000 := by omega
  have hS0 : Rc ((w.alloc (.cells #[.int .i64 0, .int .i64 0] 26)).alloc (.cells #[.string t, .int .i64 0, .int .i64 r, .slice none 0 0, .int .i64 0, .int .i64 0] 49)) (w.heap.size + 1) t ((0 : Nat) : Int) r (.slice none 0 0) 0 0 := Own.new1 w _ 49 [.string t, .int .i64 0, .int .i64 r, .slice none 0 0, .int .i64 0, .int .i64 0]
  have hR0 : Own ((w.alloc (.cells #[.int .i64 0, .int .i64 0] 26)).alloc (.cells #[.string t, .int .i64 0, .int .i64 r, .slice none 0 0, .int .i64 0, .int .i64 0] 49)) w.heap.size 26 [.int .i64 0, .int .i64 0] := Own.alloc (Own.new w _ _) _
  have hB0 : Below w.heap.size w ((w.alloc (.cells #[.int .i64 0, .int .i64 0] 26)).alloc (.cells #[.string t, .int .i64 0, .int .i64 r, .slice none 0 0, .int .i64 0, .int .i64 0] 49)) := ((Below.refl _ w).alloc (Nat.le_refl _) _).alloc (by simp) _
  obtain ⟨Q, hQ⟩ : ∃ Q, (if R.2.1 = 0 then (0, 0, R.2.2 ++ [(0, ⟨#[]⟩, (t.size : Int))]) else (R.1, R.2.1, [])) = Q := ⟨_, rfl⟩
  rw [hQ]
  have HQ := Lib.hid hQ
  have HRR := Lib.hid hR
  have HZ := Lib.hid hz
  have HS0 := Lib.hid hS0
  have HR0 := Lib.hid hR0
  have HB0 := Lib.hid hB0
  have HRG := Lib.hid h
  clear h hz hR hQ hS0 hR0 hB0
  go_enter Tryz.func11, Tryz.ntmps11
  go_wp2
  go_loopw [] (fun wr => ∃ (a r' e b : Int) (l : List Sy) (v : Value), Rc wr (w.heap.size + 1) t a r' v e b ∧ Sl wr (w.heap.size + 1) v l ∧ Own wr w.heap.size 26 [.int .i64 0, .int .i64 0] ∧ Below w.heap.size w wr ∧ ((e = 0 ∧ 0 ≤ r' ∧ r' ≤ 2 ∧ ∃ n : Nat, a = (n : Int) ∧ n ≤ t.size ∧ l.length ≤ n ∧ syL r' t (sk t n) l = R) ∨ (e ≠ 0 ∧ R = (b, e, [])))) (fun wr => if intOf ((wr.cell? ⟨w.heap.size + 1, 4, none⟩).getD (.int .i64 1)) = 0 then t.size - (intOf ((wr.cell? ⟨w.heap.size + 1, 1, none⟩).getD (.int .i64 0))).toNat + 1 else 0)
  case atStart => exact ⟨_, r, 0, 0, [], .slice none 0 0, HS0.out, Sl.nil _ _, HR0.out, HB0.out, Or.inl ⟨rfl, HRG.out.1, HRG.out.2, 0, rfl, Nat.zero_le _, Nat.zero_le _, HRR.out⟩⟩
  case round =>
    obtain ⟨a, r', e, b, l, v, hS, hL, hR, hb, hst⟩ := hrel
    have hz := HZ.out
    have c1 := hS.c1
    have c3 := hS.c3
    have c4 := hS.c4
    have c5 : wr.cell? ⟨w.heap.size + 1, 5, none⟩ = some (.int .i64 b) := Own.cell hS 5
    have hslt := hS.lt
    rcases hst with ⟨rfl, hr0, hr2, n, rfl, hn, hln, hsy⟩ | ⟨he, hRe⟩
    · by_cases hlt : n < t.size
      · have HNX := Lib.hid (rnext_any (w.heap.size + 1) (w.heap.size + 1) n t r' b v l wr hS hL (Nat.le_refl _) hl (by omega) hlt ⟨hr0, hr2⟩)
        have HG := Lib.hid (nx_go (l := l) ⟨hr0, hr2⟩ hlt)
        have HRO := Lib.hid hR
        have HBB := Lib.hid hb
        have HSY := Lib.hid hsy
        have HC1 := Lib.hid c1
        have HC4 := Lib.hid c4
        clear hS hL hR hb hsy c3 c5
        go_wp2_with (first | (go_at_call 23; (with_reducible refine HNX.out.mono ?_); (rintro e7 w7 ⟨rfl, ⟨a7, r7, e7b, b7, v7, l7, hS7, hL7, hok, hbad⟩, hb7⟩)))
        go_roundw
        case rel =>
          refine ⟨a7, r7, e7b, b7, l7, v7, hS7, hL7, HRO.out.below hb7 (Nat.lt_succ_self _), HBB.out.trans (hb7.mono (Nat.le_succ _)), ?_⟩
          by_cases hc : (nxR r' t n l).c = 0
          · obtain ⟨m, q1, q2, q3, q4, q5, q6, q7⟩ := HG.out.1 hc
            obtain ⟨p1, p2, p3, p4⟩ := hok hc
            exact Or.inl ⟨p1, by rw [p3]; exact q6, by rw [p3]; exact q7, m, by rw [p2]; exact q1, q3, by rw [p4]; omega, by rw [p3, p4, q5]; exact HSY.out⟩
          · obtain ⟨p1, p2⟩ := hbad hc
            exact Or.inr ⟨by rw [p1]; exact hc, by rw [p1, p2, ← HSY.out]; exact HG.out.2 hc⟩
        case measure =>
          have d1 : w7.cell? ⟨w.heap.size + 1, 1, none⟩ = some (.int .i64 a7) := Own.cell hS7 1
          have d4 : w7.cell? ⟨w.heap.size + 1, 4, none⟩ = some (.int .i64 e7b) := Own.cell hS7 4
          rw [d1, d4, HC1.out, HC4.out]
          show (if e7b = 0 then t.size - a7.toNat + 1 else 0) < (if (0 : Int) = 0 then t.size - ((n : Int)).toNat + 1 else 0)
          rw [if_pos rfl, Int.toNat_natCast]
          by_cases hc : (nxR r' t n l).c = 0
          · obtain ⟨m, q1, q2, q3, _⟩ := HG.out.1 hc
            obtain ⟨p1, p2, _⟩ := hok hc
            rw [if_pos p1, p2, q1, Int.toNat_natCast]
            omega
          · obtain ⟨p1, _⟩ := hbad hc
            rw [if_neg (by rw [p1]; exact hc)]
            omega
      · have hge : t.size ≤ n := by omega
        have HNQ := Lib.hid (show Q = (0, 0, l ++ [(0, ⟨#[]⟩, (t.size : Int))]) by
          have : R = (0, 0, l) := by rw [← hsy, sy_end (by have := sk_ge t n; omega)]
          rw [← HQ.out, this]; rfl)
        have HV : Hid (∀ k, v.ownBlock = some k → w.heap.size + 1 ≤ k ∧ k < wr.heap.size) := Lib.hid (fun k hk => World.ownsRow.lt hL k hk)
        have HRO := Lib.hid hR
        have HBB := Lib.hid hb
        have HLL := Lib.hid hL
        have hwz : w.heap.size + 1 ≤ wr.heap.size := by omega
        have hlz : l.length ≤ 1000000 := by omega
        clear hS hL hR hb hsy c5
        go_wp2_with (at_builtin; refine appS rfl _ _ rfl wr (w.heap.size + 1) v l (0, ⟨#[]⟩, (t.size : Int)) ?_ ?_ HLL.out hlz hwz ?_; rfl; rfl; intro g2 cap2 w2 hs2 hg2; (have hz2 := hg2.size); (simp only [World.size_alloc] at hz2); (have hR1 := Own.grown (Own.alloc HRO.out _) hg2 (fun e => absurd (HV.out _ e).1 (by omega))); (have e0 : w2.cell? ⟨w.heap.size, 0, none⟩ = some (.int .i64 0) := Own.cell hR1 0); (have e1 : w2.cell? ⟨w.heap.size, 1, none⟩ = some (.int .i64 0) := Own.cell hR1 1); (have f1 := fun i => Own.frozen hR1 i); (have l1 := Own.lt hR1); (have HR1 := Lib.hid hR1); clear hR1)
        have hF := (HR1.out.put 0 (.int .i64 0)).put 1 (.int .i64 0)
        refine bodyPost_ret (ret_tmp_own rfl hF rfl Tryz.underlying26 rfl (by kernel_rfl)) rfl ?_
        rw [HNQ.out]
        have n1 := Sl.ne hs2 HR1.out (by decide)
        have hb2 : Below w.heap.size w w2 := (HBB.out.alloc (by omega) _).grown hg2 (by simp; omega) (fun k hk => Nat.le_of_succ_le (HV.out k hk).1)
        exact ⟨_, rfl, (hs2.far n1 _).far n1 _, (hb2.setCell (p := ⟨w.heap.size, 0, none⟩) (Nat.le_refl _) _).setCell (p := ⟨w.heap.size, 1, none⟩) (Nat.le_refl _) _⟩
    · have HNQ := Lib.hid (show Q = (b, e, []) by rw [← HQ.out, hRe]; exact if_neg he)
      have he0 : (e == 0) = false := by rw [beq_eq_false_iff_ne]; exact he
      have he1 : (e != 0) = true := by rw [bne_iff_ne]; exact he
      have e0 : wr.cell? ⟨w.heap.size, 0, none⟩ = some (.int .i64 0) := Own.cell hR 0
      have e1 : wr.cell? ⟨w.heap.size, 1, none⟩ = some (.int .i64 0) := Own.cell hR 1
      have f1 := fun i => Own.frozen hR i
      have l1 := Own.lt hR
      have HRO := Lib.hid hR
      have HBB := Lib.hid hb
      clear hS hL hR hb hRe he c3
      rcases (by omega : a < (t.size : Int) ∨ (t.size : Int) ≤ a) with hat | hat
      all_goals
        first
          | (have hatb : decide (a < (t.size : Int)) = true := decide_eq_true hat)
          | (have hatb : decide (a < (t.size : Int)) = false := decide_eq_false (by omega))
        go_upto_region 9 with fail
        go_region
      all_goals
        go_wp2_with fail
      all_goals
        have hF := Own.drew ((HRO.out.put 0 (.int .i64 b)).put 1 (.int .i64 e))
        refine bodyPost_ret (ret_tmp_own rfl hF rfl Tryz.underlying26 rfl (by kernel_rfl)) rfl ?_
        have hbt := HBB.out
        have hzt := hbt.size
        rw [HNQ.out]
        exact ⟨_, rfl, Sl.nil _ _, (by repeat' (first | (with_reducible assumption) | (with_reducible exact Below.refl _ _) | (with_reducible refine Below.alloc ?_ ?_ _) | (with_reducible refine Below.setCell ?_ ?_ _) | (with_reducible refine Below.drew ?_) | (with_reducible refine Below.call ?_ ?_ (by assumption)) | (with_reducible exact Nat.le_refl _) | omega | (simp; done) | (simp; omega)))⟩
theorem rsymbols_any (t : ByteArray) (r : Int) (w : World) : Calls Tryz.prog 11 #[.string t, .int .i64 r] w (SyP w (syF r t)) := by
  unfold syF
  by_cases h : 0 ≤ r ∧ r ≤ 2
  · rw [if_pos h]
    by_cases hz : t.size ≤ 65536
    · rw [if_pos hz]; exact rsy_run t r w h hz _ rfl
    · rw [if_neg hz]; exact rsy_lim t r w h (by omega)
  · rw [if_neg h]
    rcases (by omega : r < 0 ∨ 2 < r) with h | h
    · exact rsy_arg0 t r w h
    · exact rsy_arg2 t r w h
end Go.Proofs.YtbnldpcbdeeflaaGreatDoor
