/- The program's cut, inwards and grows: what is left of a number, and how what is left out is rounded. Condition: the tables hold what their initialisers lay. -/
import Derived.Test.YtanfhlkfmmglhaaDoorGMem
namespace Go.Proofs.YtanfhlkfmmglhaaDoor
open Go.ChangeShapes Go.WideShapes Go.ChangeAt Go.RowKit
attribute [local go_sem ↓] Go.wp_at_zero Go.wp_at_succ

theorem inwards_any (how : Int) (neg : Bool) (w : World) : Calls Tryd.prog 72 #[.int .i64 how, .bool neg] w fun e w' => e = .returned (.bool (inw how neg)) ∧ w = w' := by
  rcases (by omega : how = 3 ∨ how = 1 ∨ how = 2 ∨ (¬ how = 3 ∧ ¬ how = 1 ∧ ¬ how = 2)) with h | h | h | ⟨h1, h2, h3⟩
  · subst h; cases neg <;> (go_enter Tryd.func72, Tryd.ntmps72; go_wp2; go_returns; exact ⟨by simp [inw], rfl⟩)
  · subst h; cases neg <;> (go_enter Tryd.func72, Tryd.ntmps72; go_wp2; go_returns; exact ⟨by simp [inw], rfl⟩)
  · subst h; cases neg <;> (go_enter Tryd.func72, Tryd.ntmps72; go_wp2; go_returns; exact ⟨by simp [inw], rfl⟩)
  · have e : inw how neg = false := by unfold inw; exact decide_eq_false (by omega)
    rw [e]
    have h1' : (how == 3) = false := by rw [beq_eq_false_iff_ne]; exact h1
    have h2' : (how == 1) = false := by rw [beq_eq_false_iff_ne]; exact h2
    have h3' : (how == 2) = false := by rw [beq_eq_false_iff_ne]; exact h3
    clear h1 h2 h3
    go_enter Tryd.func72, Tryd.ntmps72
    go_wp2
    go_returns
    exact ⟨rfl, rfl⟩

theorem over10 (n : Nat) (w : World) (ht : Tab w) (hn : n < 340282366920938463463374607431768211456) (q g : Nat) (hq : n / 10 = q) (hg : n % 10 = g) :
    Calls Tryd.prog 83 #[.agg #[.int .u64 (hiW n : Int), .int .u64 (loW n : Int)], .int .u64 10] w fun e w' => e = .returned (.tuple #[.agg #[.int .u64 (hiW q : Int), .int .u64 (loW q : Int)], .int .u64 (g : Int)]) ∧ Kept w w' := by
  have h := over_any n 10 w ht hn (by omega) (by omega)
  rw [hq, hg] at h
  exact h

theorem cut_no (neg : Bool) (n : Nat) (e : Int) (m : Bool) (k : Int) (w : World) (ht : Tab w) (hk : k ≤ 0) :
    Calls Tryd.prog 69 #[.agg #[.bool neg, .int .u64 (hiW n : Int), .int .u64 (loW n : Int), .int .i64 e, .bool m], .int .i64 k] w fun x w' => x = .returned (.tuple #[.agg #[.bool neg, .int .u64 (hiW n : Int), .int .u64 (loW n : Int), .int .i64 e, .bool m], .int .i64 0]) ∧ Kept w w' := by
  have hlt := ht.lt
  have _hlt0 := ht.lt0
  go_enter Tryd.func69, Tryd.ntmps69
  go_wp2
  go_returns
  exact ⟨rfl, (by repeat' (first | (with_reducible assumption) | (with_reducible exact Kept.refl ht) | (with_reducible refine Kept.alloc ?_ _) | (with_reducible refine Kept.drew ?_) | (with_reducible refine Kept.drewN ?_ _) | (with_reducible refine Kept.setCell ?_ ?_ _ ?_ ?_) | (with_reducible refine Kept.trans ?_ (by assumption)) | omega | (simp; done) | (simp; omega)))⟩

set_option maxRecDepth 100000 in
set_option maxHeartbeats 400000 in
theorem cut_yes (neg : Bool) (n : Nat) (e : Int) (m : Bool) (k : Nat) (w : World) (ht : Tab w) (hn : n < 340282366920938463463374607431768211456) (he : -1000000 ≤ e) (he' : e ≤ 1000000) (hk : 0 < k) (hk' : k ≤ 1000000) :
    Calls Tryd.prog 69 #[.agg #[.bool neg, .int .u64 (hiW n : Int), .int .u64 (loW n : Int), .int .i64 e, .bool m], .int .i64 (k : Int)] w fun x w' => x = .returned (.tuple #[.agg #[.bool neg, .int .u64 (hiW (n / 10 ^ k) : Int), .int .u64 (loW (n / 10 ^ k) : Int), .int .i64 (e + k), .bool false], .int .i64 (tl n m k : Int)]) ∧ Kept w w' := by
  have hlt := ht.lt
  have hlt0 := ht.lt0
  obtain ⟨j, rfl⟩ := Nat.exists_eq_succ_of_ne_zero (show k ≠ 0 by omega)
  obtain ⟨K, hK⟩ : ∃ K : Int, K = ((j + 1 : Nat) : Int) := ⟨_, rfl⟩
  have hKj : (j : Int) = K - 1 := by omega
  have hK0 : 0 < K := by omega
  have hK1 : K ≤ 1000000 := by omega
  have hs := fun w ht => shorter_any neg n e m (j : Int) w ht hn he he' (by omega) (by omega)
  rw [shN_pos, shM_pos, hKj] at hs
  have ht1 := tail1_tl n m j
  have hd := div_step n j
  have hN : n / 10 ^ j < 340282366920938463463374607431768211456 := Nat.lt_of_le_of_lt (Nat.div_le_self _ _) hn
  have hg10 := Nat.mod_lt (n / 10 ^ j) (show 0 < 10 by omega)
  show Calls _ _ #[.agg #[.bool neg, .int .u64 (hiW n : Int), .int .u64 (loW n : Int), .int .i64 e, .bool m], .int .i64 ((j + 1 : Nat) : Int)] w fun x w' => x = .returned (.tuple #[.agg #[.bool neg, .int .u64 (hiW (n / 10 ^ (j + 1)) : Int), .int .u64 (loW (n / 10 ^ (j + 1)) : Int), .int .i64 (e + ((j + 1 : Nat) : Int)), .bool false], .int .i64 (tl n m (j + 1) : Int)]) ∧ Kept w w'
  rw [← ht1, ← hd, ← hK]
  obtain ⟨N, hNe⟩ : ∃ N, N = n / 10 ^ j := ⟨_, rfl⟩
  obtain ⟨M, hMe⟩ : ∃ M, M = (m || decide (n % 10 ^ j ≠ 0)) := ⟨_, rfl⟩
  rw [← hNe] at hs hN hg10 ⊢
  rw [← hMe] at hs ⊢
  obtain ⟨g, hg⟩ : ∃ g, g = N % 10 := ⟨_, rfl⟩
  obtain ⟨q, hq⟩ : ∃ q, q = N / 10 := ⟨_, rfl⟩
  rw [← hg] at hg10 ⊢
  rw [← hq]
  have ho := fun w ht => over10 N w ht hN q g hq.symm hg.symm
  have HS := Lib.hid hs
  have HO := Lib.hid ho
  have hee : e + (K - 1) + 1 = e + K := by omega
  have hK2 : ¬ K ≤ 0 := by omega
  clear hs ho ht1 hd hNe hMe hg hq hn hN hk hk' hK hKj hK0
  rw [← hee]
  clear hee
  go_enter Tryd.func69, Tryd.ntmps69
  go_upto_region 3 with fail
  go_cut [] (fun wx => Inv w [(w.heap.size, 44, [.bool neg, .int .u64 (hiW N : Int), .int .u64 (loW N : Int), .int .i64 (e + (K - 1)), .bool M]), (w.heap.size + 1, 44, [.bool false, .int .u64 0, .int .u64 0, .int .i64 0, .bool false])] wx)
  case first =>
    go_wp2_with (first | (go_at_call 63; (with_reducible refine (HS.out _ (by repeat' (first | (with_reducible assumption) | (with_reducible refine Tab.alloc ?_ _) | (with_reducible refine Tab.drew ?_) | (with_reducible refine Tab.drewN ?_ _) | (with_reducible refine Tab.setCell ?_ ?_ ?_ _) | omega | (simp; done) | (simp; omega)))).mono ?_); rintro e w1 ⟨rfl, hk1⟩; obtain ⟨hc1, hf1⟩ := bcell hk1.2; have ht1 := hk1.1; have hz1 := hk1.2.size; (try simp only [World.size_alloc] at hz1); (try simp only [sz_drew] at hz1); (try simp only [sz_drewN] at hz1); (try simp only [World.size_alloc] at hz1); (try simp only [sz_drew] at hc1 hf1); (try simp only [sz_drewN] at hc1 hf1); (try have hw1 : w.heap.size < w1.heap.size := by omega); (try have hv1 : w.heap.size + 1 < w1.heap.size := by omega); (try have hu1 : w.heap.size + 2 < w1.heap.size := by omega)))
    go_meet
    exact ((((((Inv.two ht _ [_, _, _, _, _] _ [_, _, _, _, _]).call hk1).put 0 rfl 0 _ (by simp) (by omega) hlt hlt0).put 0 rfl 1 _ (by simp) (by omega) hlt hlt0).put 0 rfl 2 _ (by simp) (by omega) hlt hlt0).put 0 rfl 3 _ (by simp) (by omega) hlt hlt0).put 0 rfl 4 _ (by simp) (by omega) hlt hlt0
  case rest =>
    (have x0 : wc.cell? ⟨w.heap.size, 0, none⟩ = some (.bool neg) := (hcut.own 0 _ rfl).cell 0; have x1 : wc.cell? ⟨w.heap.size, 1, none⟩ = some (.int .u64 (hiW N : Int)) := (hcut.own 0 _ rfl).cell 1; have x2 : wc.cell? ⟨w.heap.size, 2, none⟩ = some (.int .u64 (loW N : Int)) := (hcut.own 0 _ rfl).cell 2; have x3 : wc.cell? ⟨w.heap.size, 3, none⟩ = some (.int .i64 (e + (K - 1))) := (hcut.own 0 _ rfl).cell 3; have x4 : wc.cell? ⟨w.heap.size, 4, none⟩ = some (.bool M) := (hcut.own 0 _ rfl).cell 4; have xf := fun i => (hcut.own 0 _ rfl).frozen i; have xl : w.heap.size < wc.heap.size := (hcut.own 0 _ rfl).lt)
    (have z0 : wc.cell? ⟨w.heap.size + 1, 0, none⟩ = some (.bool false) := (hcut.own 1 _ rfl).cell 0; have z1 : wc.cell? ⟨w.heap.size + 1, 1, none⟩ = some (.int .u64 0) := (hcut.own 1 _ rfl).cell 1; have z2 : wc.cell? ⟨w.heap.size + 1, 2, none⟩ = some (.int .u64 0) := (hcut.own 1 _ rfl).cell 2; have z3 : wc.cell? ⟨w.heap.size + 1, 3, none⟩ = some (.int .i64 0) := (hcut.own 1 _ rfl).cell 3; have z4 : wc.cell? ⟨w.heap.size + 1, 4, none⟩ = some (.bool false) := (hcut.own 1 _ rfl).cell 4; have zf := fun i => (hcut.own 1 _ rfl).frozen i; have zl : w.heap.size + 1 < wc.heap.size := (hcut.own 1 _ rfl).lt)
    (have wct := hcut.kept.1; have wck := hcut.kept; have wcg := hcut.kept.1.lt; have wcg0 := hcut.kept.1.lt0; have wcz := hcut.kept.2.size)
    have HI := Lib.hid hcut
    clear hcut
    go_upto_region 5 with (first | (go_at_call 83; (with_reducible refine (HO.out _ (by repeat' (first | (with_reducible assumption) | (with_reducible refine Tab.alloc ?_ _) | (with_reducible refine Tab.drew ?_) | (with_reducible refine Tab.drewN ?_ _) | (with_reducible refine Tab.setCell ?_ ?_ ?_ _) | omega | (simp; done) | (simp; omega)))).mono ?_); rintro e w2 ⟨rfl, hk2⟩; obtain ⟨hc2, hf2⟩ := bcell hk2.2; have ht2 := hk2.1; have hz2 := hk2.2.size; (try simp only [World.size_alloc] at hz2); (try simp only [sz_drew] at hz2); (try simp only [sz_drewN] at hz2); (try simp only [World.size_alloc] at hz2); (try simp only [sz_drew] at hc2 hf2); (try simp only [sz_drewN] at hc2 hf2); (try have hw2 : w.heap.size < w2.heap.size := by omega); (try have hv2 : w.heap.size + 1 < w2.heap.size := by omega); (try have hu2 : w.heap.size + 2 < w2.heap.size := by omega)))
    go_cut [8] (fun s8 wx => ∃ C : Nat, s8 = .pointer (some ⟨C, 0, none⟩) ∧ w.heap.size + 1 < C ∧ Inv w [(w.heap.size, 44, [.bool neg, .int .u64 (hiW N : Int), .int .u64 (loW N : Int), .int .i64 (e + (K - 1)), .bool M]), (w.heap.size + 1, 44, [.bool false, .int .u64 0, .int .u64 0, .int .i64 0, .bool false]), (C, 44, [.bool neg, .int .u64 (hiW q : Int), .int .u64 (loW q : Int), .int .i64 (e + (K - 1) + 1), .bool false])] wx)
    case first =>
      go_wp2_with fail
      go_meet
      exact ⟨_, rfl, by omega, (((HI.out.call hk2).alloc _).alloc _).more (bs := [_, _]) (Own.new1 w2 _ _ [_, _, _, _, _])⟩
    case rest =>
      obtain ⟨C, rfl, hC, hJ⟩ := hcut
      clear x0 x1 x2 x3 x4 xf xl z0 z1 z2 z3 z4 zf zl
      (have x0 : wc.cell? ⟨w.heap.size, 0, none⟩ = some (.bool neg) := (hJ.own 0 _ rfl).cell 0; have x1 : wc.cell? ⟨w.heap.size, 1, none⟩ = some (.int .u64 (hiW N : Int)) := (hJ.own 0 _ rfl).cell 1; have x2 : wc.cell? ⟨w.heap.size, 2, none⟩ = some (.int .u64 (loW N : Int)) := (hJ.own 0 _ rfl).cell 2; have x3 : wc.cell? ⟨w.heap.size, 3, none⟩ = some (.int .i64 (e + (K - 1))) := (hJ.own 0 _ rfl).cell 3; have x4 : wc.cell? ⟨w.heap.size, 4, none⟩ = some (.bool M) := (hJ.own 0 _ rfl).cell 4; have xf := fun i => (hJ.own 0 _ rfl).frozen i; have xl : w.heap.size < wc.heap.size := (hJ.own 0 _ rfl).lt)
      (have z0 : wc.cell? ⟨w.heap.size + 1, 0, none⟩ = some (.bool false) := (hJ.own 1 _ rfl).cell 0; have z1 : wc.cell? ⟨w.heap.size + 1, 1, none⟩ = some (.int .u64 0) := (hJ.own 1 _ rfl).cell 1; have z2 : wc.cell? ⟨w.heap.size + 1, 2, none⟩ = some (.int .u64 0) := (hJ.own 1 _ rfl).cell 2; have z3 : wc.cell? ⟨w.heap.size + 1, 3, none⟩ = some (.int .i64 0) := (hJ.own 1 _ rfl).cell 3; have z4 : wc.cell? ⟨w.heap.size + 1, 4, none⟩ = some (.bool false) := (hJ.own 1 _ rfl).cell 4; have zf := fun i => (hJ.own 1 _ rfl).frozen i; have zl : w.heap.size + 1 < wc.heap.size := (hJ.own 1 _ rfl).lt)
      (have c0 : wc.cell? ⟨C, 0, none⟩ = some (.bool neg) := (hJ.own 2 _ rfl).cell 0; have c1 : wc.cell? ⟨C, 1, none⟩ = some (.int .u64 (hiW q : Int)) := (hJ.own 2 _ rfl).cell 1; have c2 : wc.cell? ⟨C, 2, none⟩ = some (.int .u64 (loW q : Int)) := (hJ.own 2 _ rfl).cell 2; have c3 : wc.cell? ⟨C, 3, none⟩ = some (.int .i64 (e + (K - 1) + 1)) := (hJ.own 2 _ rfl).cell 3; have c4 : wc.cell? ⟨C, 4, none⟩ = some (.bool false) := (hJ.own 2 _ rfl).cell 4; have cf := fun i => (hJ.own 2 _ rfl).frozen i; have cl : C < wc.heap.size := (hJ.own 2 _ rfl).lt)
      (have wct := hJ.kept.1; have wck := hJ.kept; have wcg := hJ.kept.1.lt; have wcg0 := hJ.kept.1.lt0; have wcz := hJ.kept.2.size)
      have HZ := Lib.hid (hJ.own 1 _ rfl)
      clear hJ
      rcases (by omega : g = 0 ∨ (0 < g ∧ g < 5) ∨ g = 5 ∨ (5 < g)) with h | ⟨h, h'⟩ | h | h
      · subst h
        cases M
        all_goals
          go_wp2_with fail
          have hF := ((((HZ.out.put 0 (.bool neg)).put 1 (.int .u64 (hiW q : Int))).put 2 (.int .u64 (loW q : Int))).put 3 (.int .i64 (e + (K - 1) + 1))).put 4 (.bool false)
          refine bodyPost_ret (ret_own_tmp rfl hF rfl Tryd.underlying44 rfl (by kernel_rfl)) rfl ?_
          exact ⟨rfl, (by repeat' (first | (with_reducible assumption) | (with_reducible exact Kept.refl ht) | (with_reducible refine Kept.alloc ?_ _) | (with_reducible refine Kept.drew ?_) | (with_reducible refine Kept.drewN ?_ _) | (with_reducible refine Kept.setCell ?_ ?_ _ ?_ ?_) | (with_reducible refine Kept.trans ?_ (by assumption)) | omega | (simp; done) | (simp; omega)))⟩
      · have h1 : tail1 g M = 1 := by unfold tail1; rw [if_neg (by omega), if_pos (by omega)]
        have H1 := Lib.hid h1
        clear h1
        have h2 : ¬ g = 0 := by omega
        go_wp2_with fail
        have hF := ((((HZ.out.put 0 (.bool neg)).put 1 (.int .u64 (hiW q : Int))).put 2 (.int .u64 (loW q : Int))).put 3 (.int .i64 (e + (K - 1) + 1))).put 4 (.bool false)
        refine bodyPost_ret (ret_own_tmp rfl hF rfl Tryd.underlying44 rfl (by kernel_rfl)) rfl ?_
        exact ⟨by rw [H1.out]; rfl, (by repeat' (first | (with_reducible assumption) | (with_reducible exact Kept.refl ht) | (with_reducible refine Kept.alloc ?_ _) | (with_reducible refine Kept.drew ?_) | (with_reducible refine Kept.drewN ?_ _) | (with_reducible refine Kept.setCell ?_ ?_ _ ?_ ?_) | (with_reducible refine Kept.trans ?_ (by assumption)) | omega | (simp; done) | (simp; omega)))⟩
      · subst h
        cases M
        all_goals
          go_wp2_with fail
          have hF := ((((HZ.out.put 0 (.bool neg)).put 1 (.int .u64 (hiW q : Int))).put 2 (.int .u64 (loW q : Int))).put 3 (.int .i64 (e + (K - 1) + 1))).put 4 (.bool false)
          refine bodyPost_ret (ret_own_tmp rfl hF rfl Tryd.underlying44 rfl (by kernel_rfl)) rfl ?_
          exact ⟨rfl, (by repeat' (first | (with_reducible assumption) | (with_reducible exact Kept.refl ht) | (with_reducible refine Kept.alloc ?_ _) | (with_reducible refine Kept.drew ?_) | (with_reducible refine Kept.drewN ?_ _) | (with_reducible refine Kept.setCell ?_ ?_ _ ?_ ?_) | (with_reducible refine Kept.trans ?_ (by assumption)) | omega | (simp; done) | (simp; omega)))⟩
      · have h1 : tail1 g M = 3 := by unfold tail1; rw [if_neg (by omega), if_neg (by omega), if_neg (by omega)]
        have H1 := Lib.hid h1
        clear h1
        have h2 : ¬ g = 0 := by omega
        have h3 : ¬ g < 5 := by omega
        have h4 : ¬ g = 5 := by omega
        go_wp2_with fail
        have hF := ((((HZ.out.put 0 (.bool neg)).put 1 (.int .u64 (hiW q : Int))).put 2 (.int .u64 (loW q : Int))).put 3 (.int .i64 (e + (K - 1) + 1))).put 4 (.bool false)
        refine bodyPost_ret (ret_own_tmp rfl hF rfl Tryd.underlying44 rfl (by kernel_rfl)) rfl ?_
        exact ⟨by rw [H1.out]; rfl, (by repeat' (first | (with_reducible assumption) | (with_reducible exact Kept.refl ht) | (with_reducible refine Kept.alloc ?_ _) | (with_reducible refine Kept.drew ?_) | (with_reducible refine Kept.drewN ?_ _) | (with_reducible refine Kept.setCell ?_ ?_ _ ?_ ?_) | (with_reducible refine Kept.trans ?_ (by assumption)) | omega | (simp; done) | (simp; omega)))⟩
end Go.Proofs.YtanfhlkfmmglhaaDoor
