/- The program's exact numbers: what a real is as one. Condition: the tables hold what their initialisers lay. -/
import Derived.Test.YtcmgphfcpgebfaaDoorMem
import Derived.Deep.RegionHeld3
import Derived.Deep.DrawnRows
import Derived.Deep.DeepCutAuto
namespace Go.Proofs.YtcmgphfcpgebfaaDoor
open Go.ChangeShapes Go.WideShapes Go.ChangeAt Go.RowKit
attribute [local go_sem ↓] Go.wp_at_zero Go.wp_at_succ

set_option maxHeartbeats 1000000 in
theorem exactOf_any (m e : Int) (w : World) (ht : Tab w) (lo : -9223372036854775808 ≤ m) (hi : m ≤ 9223372036854775807) :
    Calls Tryd.prog 51 #[.agg #[.int .i64 m, .int .i64 e]] w fun x w' => x = .returned (.agg #[.bool (decide (m < 0)), .int .u64 (hiW (mag m) : Int), .int .u64 (loW (mag m) : Int), .int .i64 e, .bool false]) ∧ Kept w w' := by
  have hlt := ht.lt
  have e1 : ((hiW (mag m) : Nat) : Int) = 0 := by unfold hiW mag; omega
  have e2 : ((loW (mag m) : Nat) : Int) = (mag m : Int) := by unfold loW mag; omega
  rw [e1, e2]
  clear e1 e2
  go_enter Tryd.func51, Tryd.ntmps51
  go_wp2
  go_region_held3 (fun w' => w'.cell? ⟨w.heap.size, 0, none⟩ = some (.int .i64 m) ∧ w'.cell? ⟨w.heap.size, 1, none⟩ = some (.int .i64 e)) (go_keep)
    (first | (go_at_call 47; refine (magnitude_any m _ lo hi).mono ?_; rintro e w' ⟨rfl, rfl⟩))
  all_goals go_wp2
  go_returns
  exact ⟨rfl, (by repeat' (first | (with_reducible assumption) | (with_reducible exact Kept.refl ht) | (with_reducible refine Kept.alloc ?_ _) | (with_reducible refine Kept.drew ?_) | (with_reducible refine Kept.drewN ?_ _) | (with_reducible refine Kept.setCell ?_ ?_ _ ?_ ?_) | (with_reducible refine Kept.trans ?_ (by assumption)) | omega | (simp; done) | (simp; omega)))⟩

/-- What shorter returns for k digits. -/
def shN (n : Nat) (k : Int) : Nat := n / 10 ^ k.toNat
def shM (n : Nat) (k : Int) (m : Bool) : Bool := m || decide (n % 10 ^ k.toNat ≠ 0)
theorem shN_nil (n : Nat) {k : Int} (h : k ≤ 0) : shN n k = n := by unfold shN; rw [show k.toNat = 0 by omega]; simp
theorem shM_nil (n : Nat) {k : Int} (m : Bool) (h : k ≤ 0) : shM n k m = m := by unfold shM; rw [show k.toNat = 0 by omega]; simp [Nat.mod_one]
theorem shN_zero (k : Int) : shN 0 k = 0 := by unfold shN; simp
theorem shM_zero (k : Int) (m : Bool) : shM 0 k m = m := by unfold shM; simp
theorem shN_step (n : Nat) {k : Int} {d : Nat} (h : (d : Int) ≤ k) : shN (n / tn d) (k - d) = shN n k := by
  unfold shN tn
  rw [Nat.div_div_eq_div_mul, ← Nat.pow_add, show d + (k - (d : Int)).toNat = k.toNat by omega]
theorem shM_step (n : Nat) {k : Int} {d : Nat} (m : Bool) (h : (d : Int) ≤ k) : shM (n / tn d) (k - d) (m || decide (n % tn d ≠ 0)) = shM n k m := by
  unfold shM tn
  rw [show k.toNat = d + (k - (d : Int)).toNat by omega, Nat.pow_add, Nat.mod_mul]
  have hp := p10 d
  generalize n % 10 ^ d = a
  generalize n / 10 ^ d % 10 ^ (k - (d : Int)).toNat = b
  have h1 : 10 ^ d * b = 0 ↔ b = 0 := by
    rw [Nat.mul_eq_zero]; omega
  cases m <;> by_cases ha : a = 0 <;> by_cases hb : b = 0 <;> simp [ha, hb] <;> omega

/-- What holds at each round's head of shorter's loop: block g is the number, block g + 1 the result's. -/
def ShRel (neg : Bool) (n : Nat) (e : Int) (m : Bool) (k : Int) (w : World) (v : Value) (wr : World) : Prop :=
  ∃ (n' : Nat) (m' : Bool) (k' : Int), v = .int .i64 k' ∧
    Own wr w.heap.size 64 [.bool neg, .int .u64 (hiW n' : Int), .int .u64 (loW n' : Int), .int .i64 e, .bool m'] ∧
    Own wr (w.heap.size + 1) 64 [.bool false, .int .u64 0, .int .u64 0, .int .i64 0, .bool false] ∧
    Tab wr ∧ Below w.heap.size w wr ∧ shN n' k' = shN n k ∧ shM n' k' m' = shM n k m ∧ n' ≤ n ∧ k' ≤ k ∧ -1000000 ≤ k'

theorem ex_eq {a b : Bool} {n1 n2 : Nat} {e1 e2 : Int} (h1 : n1 = n2) (h2 : e1 = e2) (h3 : a = b) (neg : Bool) : Ending.returned (.agg #[.bool neg, .int .u64 (hiW n1 : Int), .int .u64 (loW n1 : Int), .int .i64 e1, .bool a]) = .returned (.agg #[.bool neg, .int .u64 (hiW n2 : Int), .int .u64 (loW n2 : Int), .int .i64 e2, .bool b]) := by rw [h1, h2, h3]

theorem sh_next (n : Nat) (m : Bool) {k : Int} {d : Nat} (h : min k 19 = (d : Int)) (hk : 0 < k) : shN (n / tn d) (k - 19) = shN n k ∧ shM (n / tn d) (k - 19) (m || decide (n % tn d ≠ 0)) = shM n k m := by
  rcases (by omega : k ≤ 19 ∨ 19 < k) with h1 | h1
  · have e : k = d := by omega
    subst e
    have a := shN_step n (k := (d : Int)) (d := d) (Int.le_refl _)
    have b := shM_step n (k := (d : Int)) (d := d) m (Int.le_refl _)
    rw [Int.sub_self, shN_nil _ (Int.le_refl _)] at a
    rw [Int.sub_self, shM_nil _ _ (Int.le_refl _)] at b
    rw [shN_nil _ (by omega), shM_nil _ _ (by omega)]
    exact ⟨a, b⟩
  · have e : d = 19 := by omega
    subst e
    exact ⟨shN_step n (by omega), shM_step n m (by omega)⟩

theorem bne_mod (n t : Nat) : (((n : Int) % (t : Int)) != 0) = decide (n % t ≠ 0) := by
  have e : ((n : Int) % (t : Int)) = ((n % t : Nat) : Int) := by simp
  rw [e, Bool.eq_iff_iff]
  simp
  omega
theorem sh_pack {w w' : World} {neg m' : Bool} {n' d : Nat} {e : Int} (hd : d < 20)
    (h : Inv w [(w.heap.size, 64, [.bool neg, .int .u64 (hiW n' : Int), .int .u64 (loW n' : Int), .int .i64 e, .bool m']), (w.heap.size + 1, 64, [.bool false, .int .u64 0, .int .u64 0, .int .i64 0, .bool false])] w') :
    Inv w [(w.heap.size, 64, [.bool neg, .int .u64 (hiW n' : Int), .int .u64 (loW n' : Int), .int .i64 e, .bool m']), (w.heap.size + 1, 64, [.bool false, .int .u64 0, .int .u64 0, .int .i64 0, .bool false])] w' ∧
    w'.cell? ⟨w.heap.size, 1, none⟩ = some (.int .u64 (hiW n' : Int)) ∧ w'.cell? ⟨w.heap.size, 2, none⟩ = some (.int .u64 (loW n' : Int)) ∧ w'.cell? ⟨1, d, none⟩ = some (.int .u64 (tn d : Int)) ∧ Tab w' :=
  ⟨h, (h.own 0 _ rfl).cell 1, (h.own 0 _ rfl).cell 2, h.kept.1.tens d hd, h.kept.1⟩

set_option maxRecDepth 100000 in
set_option maxHeartbeats 2000000 in
theorem shorter_any (neg : Bool) (n : Nat) (e : Int) (m : Bool) (k : Int) (w : World) (ht : Tab w) (hn : n < 340282366920938463463374607431768211456) (he : -1000000 ≤ e) (he' : e ≤ 1000000) (hk : -999000 ≤ k) (hk' : k ≤ 1000000) :
    Calls Tryd.prog 89 #[.agg #[.bool neg, .int .u64 (hiW n : Int), .int .u64 (loW n : Int), .int .i64 e, .bool m], .int .i64 k] w fun x w' => x = .returned (.agg #[.bool neg, .int .u64 (hiW (shN n k) : Int), .int .u64 (loW (shN n k) : Int), .int .i64 (e + k), .bool (shM n k m)]) ∧ Kept w w' := by
  have hlt := ht.lt
  go_enter Tryd.func89, Tryd.ntmps89
  go_wp2_with fail
  go_loopw [1] (ShRel neg n (e + k) m k w) (fun v _ => (intOf v).toNat)
  case atStart =>
    exact ⟨n, m, k, rfl, (Own.new _ _ _).alloc _, by simpa using Own.new (w.alloc _) 64 _, (ht.alloc _).alloc _, ((Below.refl _ _).alloc (Nat.le_refl _) _).alloc (by simp) _, rfl, rfl, Nat.le_refl _, Int.le_refl _, by omega⟩
  case round =>
    obtain ⟨n', m', k', rfl, hX, hR, ht', hb, r1, r2, r3, r4, r5⟩ := hrel
    have x0 : wr.cell? ⟨w.heap.size, 0, none⟩ = some (.bool neg) := hX.cell 0
    have x1 : wr.cell? ⟨w.heap.size, 1, none⟩ = some (.int .u64 (hiW n' : Int)) := hX.cell 1
    have x2 : wr.cell? ⟨w.heap.size, 2, none⟩ = some (.int .u64 (loW n' : Int)) := hX.cell 2
    have x3 : wr.cell? ⟨w.heap.size, 3, none⟩ = some (.int .i64 (e + k)) := hX.cell 3
    have x4 : wr.cell? ⟨w.heap.size, 4, none⟩ = some (.bool m') := hX.cell 4
    have y0 : wr.cell? ⟨w.heap.size + 1, 0, none⟩ = some (.bool false) := hR.cell 0
    have y1 : wr.cell? ⟨w.heap.size + 1, 1, none⟩ = some (.int .u64 0) := hR.cell 1
    have y2 : wr.cell? ⟨w.heap.size + 1, 2, none⟩ = some (.int .u64 0) := hR.cell 2
    have y3 : wr.cell? ⟨w.heap.size + 1, 3, none⟩ = some (.int .i64 0) := hR.cell 3
    have y4 : wr.cell? ⟨w.heap.size + 1, 4, none⟩ = some (.bool false) := hR.cell 4
    have fx := fun i => hX.frozen i
    have fy := fun i => hR.frozen i
    have l1 := hX.lt
    have l2 := hR.lt
    have l3 := ht'.lt
    have HB := Lib.hid hb
    have HX := Lib.hid hX
    have HR := Lib.hid hR
    have R1 := Lib.hid r1
    have R2 := Lib.hid r2
    have hn' : n' < 340282366920938463463374607431768211456 := Nat.lt_of_le_of_lt r3 hn
    clear hb hX hR r1 r2
    have hK : Kept w wr := ⟨ht', HB.out⟩
    by_cases hk0 : 0 < k'
    · by_cases hz : n' = 0
      · subst hz
        rw [shN_zero] at R1
        rw [shM_zero] at R2
        go_wp2_with (first | (go_at_call 78; (with_reducible refine (isZero_any 0 _ (by repeat' (first | (with_reducible assumption) | (with_reducible refine Tab.alloc ?_ _) | (with_reducible refine Tab.drew ?_) | (with_reducible refine Tab.drewN ?_ _) | (with_reducible refine Tab.setCell ?_ ?_ ?_ _) | omega | (simp; done) | (simp; omega)))).mono ?_); rintro e w1 ⟨rfl, hk1⟩; obtain ⟨hc1, hf1⟩ := bcell hk1.2; have ht1 := hk1.1; have hz1 := hk1.2.size; (try simp only [World.size_alloc] at hz1); (try simp only [sz_drew] at hz1); (try simp only [sz_drewN] at hz1); (try simp only [World.size_alloc] at hz1); (try simp only [sz_drew] at hc1 hf1); (try simp only [sz_drewN] at hc1 hf1); (try have hw1 : w.heap.size < w1.heap.size := by omega); (try have hv1 : w.heap.size + 1 < w1.heap.size := by omega); (try have hu1 : w.heap.size + 2 < w1.heap.size := by omega)))
        have hF := (((((HR.out.kept hk1.2).put 0 (.bool neg)).put 1 (.int .u64 (hiW 0 : Int))).put 2 (.int .u64 (loW 0 : Int))).put 3 (.int .i64 (e + k))).put 4 (.bool m')
        refine bodyPost_ret (ret_own rfl hF rfl Tryd.underlying64 rfl (by kernel_rfl)) rfl ?_
        exact ⟨ex_eq R1.out rfl R2.out neg, (by repeat' (first | (with_reducible assumption) | (with_reducible exact Kept.refl ht) | (with_reducible refine Kept.alloc ?_ _) | (with_reducible refine Kept.drew ?_) | (with_reducible refine Kept.drewN ?_ _) | (with_reducible refine Kept.setCell ?_ ?_ _ ?_ ?_) | (with_reducible refine Kept.trans ?_ (by assumption)) | omega | (simp; done) | (simp; omega)))⟩
      · have hd : decide (n' = 0) = false := decide_eq_false hz
        have HZ := Lib.hid hz
        clear hz
        obtain ⟨d, hmin⟩ := Int.eq_ofNat_of_zero_le (show 0 ≤ min k' 19 by omega)
        have hd20 : d < 20 := by omega
        have hd20i : (d : Int) < 20 := by omega
        have hdn : (0 : Int) ≤ (d : Int) := by omega
        have hTd : tn d < 18446744073709551616 := Nat.lt_of_le_of_lt (p10_le (show d ≤ 19 by omega)) (by decide)
        have hTp : 0 < tn d := p10 d
        have s1 := Lib.hid (sh_next n' m' hmin hk0)
        have tc := ht'.tens d hd20
        go_upto_region 4 with (first | (go_at_call 78; (with_reducible refine (isZero_any n' _ (by repeat' (first | (with_reducible assumption) | (with_reducible refine Tab.alloc ?_ _) | (with_reducible refine Tab.drew ?_) | (with_reducible refine Tab.drewN ?_ _) | (with_reducible refine Tab.setCell ?_ ?_ ?_ _) | omega | (simp; done) | (simp; omega)))).mono ?_); rintro e w1 ⟨rfl, hk1⟩; obtain ⟨hc1, hf1⟩ := bcell hk1.2; have ht1 := hk1.1; have hz1 := hk1.2.size; (try simp only [World.size_alloc] at hz1); (try simp only [sz_drew] at hz1); (try simp only [sz_drewN] at hz1); (try simp only [World.size_alloc] at hz1); (try simp only [sz_drew] at hc1 hf1); (try simp only [sz_drewN] at hc1 hf1); (try have hw1 : w.heap.size < w1.heap.size := by omega); (try have hv1 : w.heap.size + 1 < w1.heap.size := by omega); (try have hu1 : w.heap.size + 2 < w1.heap.size := by omega)))
        have hI : Inv w [(w.heap.size, 64, [.bool neg, .int .u64 (hiW n' : Int), .int .u64 (loW n' : Int), .int .i64 (e + k), .bool m']), (w.heap.size + 1, 64, [.bool false, .int .u64 0, .int .u64 0, .int .i64 0, .bool false])] w1 :=
          ((Inv.mk (bs := []) (hK.trans hk1) (fun i x hx => by simp at hx)).more (HX.out.kept hk1.2)).more (HR.out.kept hk1.2)
        go_cut [5, 6] (fun s5 s6 wx => ∃ B : Nat, s5 = .pointer (some ⟨B, 0, none⟩) ∧ s6 = .int .u64 ((n' % tn d : Nat) : Int) ∧ w.heap.size + 1 < B ∧ Inv w [(w.heap.size, 64, [.bool neg, .int .u64 (hiW n' : Int), .int .u64 (loW n' : Int), .int .i64 (e + k), .bool m']), (w.heap.size + 1, 64, [.bool false, .int .u64 0, .int .u64 0, .int .i64 0, .bool false]), (B, 62, [.int .u64 (hiW (n' / tn d) : Int), .int .u64 (loW (n' / tn d) : Int)])] wx)
        case first =>
          go_region_held3 (fun w' => Inv w [(w.heap.size, 64, [.bool neg, .int .u64 (hiW n' : Int), .int .u64 (loW n' : Int), .int .i64 (e + k), .bool m']), (w.heap.size + 1, 64, [.bool false, .int .u64 0, .int .u64 0, .int .i64 0, .bool false])] w' ∧ w'.cell? ⟨w.heap.size, 1, none⟩ = some (.int .u64 (hiW n' : Int)) ∧ w'.cell? ⟨w.heap.size, 2, none⟩ = some (.int .u64 (loW n' : Int)) ∧ w'.cell? ⟨1, d, none⟩ = some (.int .u64 (tn d : Int)) ∧ Tab w')
            ((refine sh_pack hd20 ?_; repeat' (first | (with_reducible assumption) | (with_reducible refine Inv.drew ?_) | (with_reducible refine Inv.alloc ?_ _) | (with_reducible refine Inv.call ?_ (by assumption)) | (with_reducible refine Inv.far ?_ ?_ ?_ ?_ ?_ _) | omega | (simp; done) | (simp; omega))))
            (first | (go_at_call 96; (with_reducible refine (over_any n' (tn d) _ (by repeat' (first | (with_reducible assumption) | (with_reducible refine Tab.alloc ?_ _) | (with_reducible refine Tab.drew ?_) | (with_reducible refine Tab.drewN ?_ _) | (with_reducible refine Tab.setCell ?_ ?_ ?_ _) | omega | (simp; done) | (simp; omega))) hn' hTp hTd).mono ?_); rintro e w2 ⟨rfl, hk2⟩; obtain ⟨hc2, hf2⟩ := bcell hk2.2; have ht2 := hk2.1; have hz2 := hk2.2.size; (try simp only [World.size_alloc] at hz2); (try simp only [sz_drew] at hz2); (try simp only [sz_drewN] at hz2); (try simp only [World.size_alloc] at hz2); (try simp only [sz_drew] at hc2 hf2); (try simp only [sz_drewN] at hc2 hf2); (try have hw2 : w.heap.size < w2.heap.size := by omega); (try have hv2 : w.heap.size + 1 < w2.heap.size := by omega); (try have hu2 : w.heap.size + 2 < w2.heap.size := by omega)))
          all_goals
            go_wp2_with fail
            go_meet
            refine ⟨_, rfl, rfl, ?_, ?_⟩
            · omega
            · refine Inv.more (bs := [_, _]) ?_ ?_
              · repeat' (first | (with_reducible assumption) | (with_reducible refine Inv.drew ?_) | (with_reducible refine Inv.alloc ?_ _) | (with_reducible refine Inv.call ?_ (by assumption)) | (with_reducible refine Inv.far ?_ ?_ ?_ ?_ ?_ _) | omega | (simp; done) | (simp; omega))
              · first
                  | (with_reducible exact Own.new _ _ _)
                  | (have hq := (((Own.new _ _ [.int .u64 0, .int .u64 0]).drew.call (by assumption)).put 0 (.int .u64 (hiW (n' / tn d) : Int))).put 1 (.int .u64 (loW (n' / tn d) : Int)); exact hq)
        case rest =>
          obtain ⟨B, rfl, rfl, hB, hJ⟩ := hcut
          have q0 : wc.cell? ⟨B, 0, none⟩ = some (.int .u64 (hiW (n' / tn d) : Int)) := (hJ.own 2 _ rfl).cell 0
          have q1 : wc.cell? ⟨B, 1, none⟩ = some (.int .u64 (loW (n' / tn d) : Int)) := (hJ.own 2 _ rfl).cell 1
          have z1 : wc.cell? ⟨w.heap.size, 1, none⟩ = some (.int .u64 (hiW n' : Int)) := (hJ.own 0 _ rfl).cell 1
          have z2 : wc.cell? ⟨w.heap.size, 2, none⟩ = some (.int .u64 (loW n' : Int)) := (hJ.own 0 _ rfl).cell 2
          have z4 : wc.cell? ⟨w.heap.size, 4, none⟩ = some (.bool m') := (hJ.own 0 _ rfl).cell 4
          have fz := fun i => (hJ.own 0 _ rfl).frozen i
          have HJ := Lib.hid hJ
          clear hJ
          cases m'
          all_goals
            go_wp2_with fail
            go_round
            case rel =>
              refine ⟨n' / tn d, _, k' - 19, rfl, (((HJ.out.own 0 _ rfl).put 1 _).put 2 _).put 4 _, (((HJ.out.own 1 _ rfl).far (by simp) _).far (by simp) _).far (by simp) _, ?_, ?_, s1.out.1.trans R1.out, ?_, Nat.le_trans (Nat.div_le_self _ _) r3, by omega, by omega⟩
              · exact ((HJ.out.kept.1.setCell (by simp; omega) (by simp; omega) _).setCell (by simp; omega) (by simp; omega) _).setCell (by simp; omega) (by simp; omega) _
              · exact ((HJ.out.kept.2.setCell (by simp) _).setCell (by simp) _).setCell (by simp) _
              · rw [← R2.out, ← s1.out.2]
                first
                  | done
                  | (congr 1; done)
                  | (congr 1; rw [bne_mod]; simp)
            case measure => simp [intOf]; omega
    · rw [shN_nil _ (by omega)] at R1
      rw [shM_nil _ _ (by omega)] at R2
      go_wp2_with (first | (go_at_call 78; (with_reducible refine (isZero_any n' _ (by repeat' (first | (with_reducible assumption) | (with_reducible refine Tab.alloc ?_ _) | (with_reducible refine Tab.drew ?_) | (with_reducible refine Tab.drewN ?_ _) | (with_reducible refine Tab.setCell ?_ ?_ ?_ _) | omega | (simp; done) | (simp; omega)))).mono ?_); rintro e w1 ⟨rfl, hk1⟩; obtain ⟨hc1, hf1⟩ := bcell hk1.2; have ht1 := hk1.1; have hz1 := hk1.2.size; (try simp only [World.size_alloc] at hz1); (try simp only [sz_drew] at hz1); (try simp only [sz_drewN] at hz1); (try simp only [World.size_alloc] at hz1); (try simp only [sz_drew] at hc1 hf1); (try simp only [sz_drewN] at hc1 hf1); (try have hw1 : w.heap.size < w1.heap.size := by omega); (try have hv1 : w.heap.size + 1 < w1.heap.size := by omega); (try have hu1 : w.heap.size + 2 < w1.heap.size := by omega)))
      have hF := ((((HR.out.put 0 (.bool neg)).put 1 (.int .u64 (hiW n' : Int))).put 2 (.int .u64 (loW n' : Int))).put 3 (.int .i64 (e + k))).put 4 (.bool m')
      refine bodyPost_ret (ret_own rfl hF rfl Tryd.underlying64 rfl (by kernel_rfl)) rfl ?_
      exact ⟨ex_eq R1.out rfl R2.out neg, (by repeat' (first | (with_reducible assumption) | (with_reducible exact Kept.refl ht) | (with_reducible refine Kept.alloc ?_ _) | (with_reducible refine Kept.drew ?_) | (with_reducible refine Kept.drewN ?_ _) | (with_reducible refine Kept.setCell ?_ ?_ _ ?_ ?_) | (with_reducible refine Kept.trans ?_ (by assumption)) | omega | (simp; done) | (simp; omega)))⟩
end Go.Proofs.YtcmgphfcpgebfaaDoor
