/- The program's root of an exact number whose exponent, with 37 digits before the point, is odd. Conditions: the tables hold what their initialisers lay; the number is not 0. -/
import Derived.Test.YtanfhlkfmmglhaaDoorGXroot
namespace Go.Proofs.YtanfhlkfmmglhaaDoor
open Go.ChangeShapes Go.WideShapes Go.ChangeAt Go.RowKit
attribute [local go_sem ↓] Go.wp_at_zero Go.wp_at_succ

set_option maxRecDepth 100000 in
set_option maxHeartbeats 16000000 in
theorem xroot_odd (neg m : Bool) (n : Nat) (e : Int) (w : World) (ht : Tab w) (hn0 : n ≠ 0) (hn : n < 18446744073709551616) (he : -100000 ≤ e) (he' : e ≤ 100000)
    (N N2 : Nat) (d F : Int) (hN : n * 10 ^ (37 - dg n) = N) (hd : ((37 - dg n : Nat) : Int) = d) (hN2 : N * 10 = N2) (hF : e - d - 1 = 2 * F) :
    Calls Tryd.prog 48 #[.agg #[.bool neg, .int .u64 (hiW n : Int), .int .u64 (loW n : Int), .int .i64 e, .bool m]] w fun x w' => x = .returned (.agg #[.bool false, .int .u64 (hiW (isq N2) : Int), .int .u64 (loW (isq N2) : Int), .int .i64 F, .bool (decide (isq N2 * isq N2 ≠ N2))]) ∧ Kept w w' := by
  have hlt := ht.lt
  have hlt0 := ht.lt0
  have hd0 : decide (n = 0) = false := decide_eq_false hn0
  have hdb : 0 ≤ d := by omega
  have hdb' : d ≤ 37 := by omega
  have hlg := fun w ht => longer_any neg n e m 37 w ht (by omega) (by omega) (by omega) (by omega) (by omega)
  rw [show (37 : Int).toNat = 37 by decide, hN, hd] at hlg
  have hdg : dg n ≤ 20 := (dg_iff n 20).2 (by simp; omega)
  have hNn : N ≠ 0 := by rw [← hN]; exact mul_p10 hn0 _
  have hNd : dg N = 37 := by rw [← hN, dg_mul _ hn0]; omega
  have hNb0 : N < 10000000000000000000000000000000000000 := Nat.lt_of_lt_of_le ((dg_iff N 37).1 (by omega)) (by decide)
  have hlg2 := fun w ht => longer_any neg N (e - d) m 38 w ht (by omega) (by omega) (by omega) (by omega) (by omega)
  rw [show (38 : Int).toNat = 38 by decide, hNd, show 38 - 37 = 1 by decide, Nat.pow_one, hN2] at hlg2
  have hNb : N2 < 100000000000000000000000000000000000000 := by omega
  have hrt := fun w ht => nroot_any N2 w ht (by omega) hNb
  have hsb : isq N2 < 18446744073709551616 := by
    obtain ⟨a, b⟩ := isq_spec N2
    rcases Nat.lt_or_ge (isq N2) 18446744073709551616 with h | h
    · exact h
    · have := Nat.mul_le_mul h h; omega
  obtain ⟨s, hs⟩ : ∃ s, s = isq N2 := ⟨_, rfl⟩
  rw [← hs] at hrt hsb ⊢
  obtain ⟨si, hsi⟩ : ∃ si : Int, si = (s : Int) := ⟨_, rfl⟩
  rw [← hsi] at hrt
  have hsh : ((hiW s : Nat) : Int) = 0 := by unfold hiW; omega
  have hsl : ((loW s : Nat) : Int) = si := by unfold loW; omega
  rw [hsh, hsl]
  obtain ⟨mo, hmo⟩ : ∃ mo, decide (s * s ≠ N2) = mo := ⟨_, rfl⟩
  rw [hmo]
  have HL := Lib.hid hlg
  have HL2 := Lib.hid (show ∀ w, Tab w → Calls Tryd.prog 82 #[.agg #[.bool neg, .int .u64 (hiW N : Int), .int .u64 (loW N : Int), .int .i64 (e - d), .bool m], .int .i64 38] w fun x w' => x = .returned (.agg #[.bool neg, .int .u64 (hiW N2 : Int), .int .u64 (loW N2 : Int), .int .i64 (e - d - 1), .bool m]) ∧ Kept w w' from fun w ht => hlg2 w ht)
  have HR := Lib.hid hrt
  have htm : (Int.tmod (e - d) 2 != 0) = true := by
    rw [bne_iff_ne]
    intro h
    have := Int.dvd_of_tmod_eq_zero h
    omega
  have HF : Hid (IntKind.i64.wrap ((e - d - 1).tdiv 2) = F) := Lib.hid (by rw [hF, Int.mul_tdiv_cancel_left _ (by omega)]; exact IntWalk.i64_in _ (by omega))
  have hts := fun w ht q hq => times_sq s w ht hsb q hq si hsi
  have HT := Lib.hid hts
  clear hlg hlg2 hrt hn0 hn hN hN2 hd hF hdg hNn hNd hNb hNb0 hsb hsi hsh hsl hs hts
  go_enter Tryd.func48, Tryd.ntmps48
  go_upto_region 3 with (first | (go_at_call 62; (with_reducible refine (isZero_any n _ (by repeat' (first | (with_reducible assumption) | (with_reducible refine Tab.alloc ?_ _) | (with_reducible refine Tab.drew ?_) | (with_reducible refine Tab.drewN ?_ _) | (with_reducible refine Tab.setCell ?_ ?_ ?_ _) | omega | (simp; done) | (simp; omega)))).mono ?_); rintro e w1 ⟨rfl, hk1⟩; obtain ⟨hc1, hf1⟩ := bcell hk1.2; have ht1 := hk1.1; have hz1 := hk1.2.size; (try simp only [World.size_alloc] at hz1); (try simp only [sz_drew] at hz1); (try simp only [sz_drewN] at hz1); (try simp only [World.size_alloc] at hz1); (try simp only [sz_drew] at hc1 hf1); (try simp only [sz_drewN] at hc1 hf1); (try have hw1 : w.heap.size < w1.heap.size := by omega); (try have hv1 : w.heap.size + 1 < w1.heap.size := by omega); (try have hu1 : w.heap.size + 2 < w1.heap.size := by omega)))
  have hI := (Inv.two ht 44 [.bool neg, .int .u64 (hiW n : Int), .int .u64 (loW n : Int), .int .i64 e, .bool m] 44 [.bool false, .int .u64 0, .int .u64 0, .int .i64 0, .bool false]).call hk1
  clear hc1 hf1
  (have x0 : w1.cell? ⟨w.heap.size, 0, none⟩ = some (.bool neg) := (hI.own 0 _ rfl).cell 0; have x1 : w1.cell? ⟨w.heap.size, 1, none⟩ = some (.int .u64 (hiW n : Int)) := (hI.own 0 _ rfl).cell 1; have x2 : w1.cell? ⟨w.heap.size, 2, none⟩ = some (.int .u64 (loW n : Int)) := (hI.own 0 _ rfl).cell 2; have x3 : w1.cell? ⟨w.heap.size, 3, none⟩ = some (.int .i64 e) := (hI.own 0 _ rfl).cell 3; have x4 : w1.cell? ⟨w.heap.size, 4, none⟩ = some (.bool m) := (hI.own 0 _ rfl).cell 4; have xf := fun i => (hI.own 0 _ rfl).frozen i; have xl : w.heap.size < w1.heap.size := (hI.own 0 _ rfl).lt)
  (have w1t := hI.kept.1; have w1k := hI.kept; have w1g := hI.kept.1.lt; have w1g0 := hI.kept.1.lt0; have w1z := hI.kept.2.size)
  have HI := Lib.hid hI
  clear hI
  go_cut [] (fun wx => Inv w [(w.heap.size, 44, [.bool neg, .int .u64 (hiW N : Int), .int .u64 (loW N : Int), .int .i64 (e - d), .bool m]), (w.heap.size + 1, 44, [.bool false, .int .u64 0, .int .u64 0, .int .i64 0, .bool false])] wx)
  case first =>
    go_wp2_with (first | (go_at_call 82; (with_reducible refine (HL.out _ (by repeat' (first | (with_reducible assumption) | (with_reducible refine Tab.alloc ?_ _) | (with_reducible refine Tab.drew ?_) | (with_reducible refine Tab.drewN ?_ _) | (with_reducible refine Tab.setCell ?_ ?_ ?_ _) | omega | (simp; done) | (simp; omega)))).mono ?_); rintro e w2 ⟨rfl, hk2⟩; obtain ⟨hc2, hf2⟩ := bcell hk2.2; have ht2 := hk2.1; have hz2 := hk2.2.size; (try simp only [World.size_alloc] at hz2); (try simp only [sz_drew] at hz2); (try simp only [sz_drewN] at hz2); (try simp only [World.size_alloc] at hz2); (try simp only [sz_drew] at hc2 hf2); (try simp only [sz_drewN] at hc2 hf2); (try have hw2 : w.heap.size < w2.heap.size := by omega); (try have hv2 : w.heap.size + 1 < w2.heap.size := by omega); (try have hu2 : w.heap.size + 2 < w2.heap.size := by omega)))
    go_meet
    exact (((((HI.out.call hk2).put 0 rfl 0 _ (by simp) (by omega) hlt hlt0).put 0 rfl 1 _ (by simp) (by omega) hlt hlt0).put 0 rfl 2 _ (by simp) (by omega) hlt hlt0).put 0 rfl 3 _ (by simp) (by omega) hlt hlt0).put 0 rfl 4 _ (by simp) (by omega) hlt hlt0
  case rest =>
    clear HI x0 x1 x2 x3 x4 xf xl
    (have x0 : wc.cell? ⟨w.heap.size, 0, none⟩ = some (.bool neg) := (hcut.own 0 _ rfl).cell 0; have x1 : wc.cell? ⟨w.heap.size, 1, none⟩ = some (.int .u64 (hiW N : Int)) := (hcut.own 0 _ rfl).cell 1; have x2 : wc.cell? ⟨w.heap.size, 2, none⟩ = some (.int .u64 (loW N : Int)) := (hcut.own 0 _ rfl).cell 2; have x3 : wc.cell? ⟨w.heap.size, 3, none⟩ = some (.int .i64 (e - d)) := (hcut.own 0 _ rfl).cell 3; have x4 : wc.cell? ⟨w.heap.size, 4, none⟩ = some (.bool m) := (hcut.own 0 _ rfl).cell 4; have xf := fun i => (hcut.own 0 _ rfl).frozen i; have xl : w.heap.size < wc.heap.size := (hcut.own 0 _ rfl).lt)
    (have z0 : wc.cell? ⟨w.heap.size + 1, 0, none⟩ = some (.bool false) := (hcut.own 1 _ rfl).cell 0; have z1 : wc.cell? ⟨w.heap.size + 1, 1, none⟩ = some (.int .u64 0) := (hcut.own 1 _ rfl).cell 1; have z2 : wc.cell? ⟨w.heap.size + 1, 2, none⟩ = some (.int .u64 0) := (hcut.own 1 _ rfl).cell 2; have z3 : wc.cell? ⟨w.heap.size + 1, 3, none⟩ = some (.int .i64 0) := (hcut.own 1 _ rfl).cell 3; have z4 : wc.cell? ⟨w.heap.size + 1, 4, none⟩ = some (.bool false) := (hcut.own 1 _ rfl).cell 4; have zf := fun i => (hcut.own 1 _ rfl).frozen i; have zl : w.heap.size + 1 < wc.heap.size := (hcut.own 1 _ rfl).lt)
    (have wct := hcut.kept.1; have wck := hcut.kept; have wcg := hcut.kept.1.lt; have wcg0 := hcut.kept.1.lt0; have wcz := hcut.kept.2.size)
    have HI := Lib.hid hcut
    clear hcut
    go_upto_region 5 with fail
    go_cut [] (fun wx => Inv w [(w.heap.size, 44, [.bool neg, .int .u64 (hiW N2 : Int), .int .u64 (loW N2 : Int), .int .i64 (e - d - 1), .bool m]), (w.heap.size + 1, 44, [.bool false, .int .u64 0, .int .u64 0, .int .i64 0, .bool false])] wx)
    case first =>
      go_wp2_with (first | (go_at_call 82; (with_reducible refine (HL2.out _ (by repeat' (first | (with_reducible assumption) | (with_reducible refine Tab.alloc ?_ _) | (with_reducible refine Tab.drew ?_) | (with_reducible refine Tab.drewN ?_ _) | (with_reducible refine Tab.setCell ?_ ?_ ?_ _) | omega | (simp; done) | (simp; omega)))).mono ?_); rintro e w8 ⟨rfl, hk8⟩; obtain ⟨hc8, hf8⟩ := bcell hk8.2; have ht8 := hk8.1; have hz8 := hk8.2.size; (try simp only [World.size_alloc] at hz8); (try simp only [sz_drew] at hz8); (try simp only [sz_drewN] at hz8); (try simp only [World.size_alloc] at hz8); (try simp only [sz_drew] at hc8 hf8); (try simp only [sz_drewN] at hc8 hf8); (try have hw8 : w.heap.size < w8.heap.size := by omega); (try have hv8 : w.heap.size + 1 < w8.heap.size := by omega); (try have hu8 : w.heap.size + 2 < w8.heap.size := by omega)))
      go_meet
      exact (((((HI.out.call hk8).put 0 rfl 0 _ (by simp) (by omega) hlt hlt0).put 0 rfl 1 _ (by simp) (by omega) hlt hlt0).put 0 rfl 2 _ (by simp) (by omega) hlt hlt0).put 0 rfl 3 _ (by simp) (by omega) hlt hlt0).put 0 rfl 4 _ (by simp) (by omega) hlt hlt0
    case rest =>
      clear HI x0 x1 x2 x3 x4 xf xl z0 z1 z2 z3 z4 zf zl
      (have x0 : wc.cell? ⟨w.heap.size, 0, none⟩ = some (.bool neg) := (hcut.own 0 _ rfl).cell 0; have x1 : wc.cell? ⟨w.heap.size, 1, none⟩ = some (.int .u64 (hiW N2 : Int)) := (hcut.own 0 _ rfl).cell 1; have x2 : wc.cell? ⟨w.heap.size, 2, none⟩ = some (.int .u64 (loW N2 : Int)) := (hcut.own 0 _ rfl).cell 2; have x3 : wc.cell? ⟨w.heap.size, 3, none⟩ = some (.int .i64 (e - d - 1)) := (hcut.own 0 _ rfl).cell 3; have x4 : wc.cell? ⟨w.heap.size, 4, none⟩ = some (.bool m) := (hcut.own 0 _ rfl).cell 4; have xf := fun i => (hcut.own 0 _ rfl).frozen i; have xl : w.heap.size < wc.heap.size := (hcut.own 0 _ rfl).lt)
      (have z0 : wc.cell? ⟨w.heap.size + 1, 0, none⟩ = some (.bool false) := (hcut.own 1 _ rfl).cell 0; have z1 : wc.cell? ⟨w.heap.size + 1, 1, none⟩ = some (.int .u64 0) := (hcut.own 1 _ rfl).cell 1; have z2 : wc.cell? ⟨w.heap.size + 1, 2, none⟩ = some (.int .u64 0) := (hcut.own 1 _ rfl).cell 2; have z3 : wc.cell? ⟨w.heap.size + 1, 3, none⟩ = some (.int .i64 0) := (hcut.own 1 _ rfl).cell 3; have z4 : wc.cell? ⟨w.heap.size + 1, 4, none⟩ = some (.bool false) := (hcut.own 1 _ rfl).cell 4; have zf := fun i => (hcut.own 1 _ rfl).frozen i; have zl : w.heap.size + 1 < wc.heap.size := (hcut.own 1 _ rfl).lt)
      (have wct := hcut.kept.1; have wck := hcut.kept; have wcg := hcut.kept.1.lt; have wcg0 := hcut.kept.1.lt0; have wcz := hcut.kept.2.size)
      have HI := Lib.hid hcut
      clear hcut
      obtain ⟨q, hq⟩ : ∃ q, s * s = q := ⟨_, rfl⟩
      have HT1 := Lib.hid (fun w ht => HT.out w ht q hq)
      rw [hq] at hmo
      clear HT hq
      go_upto_region 7 with (first | (go_at_call 84; (with_reducible refine (HR.out _ (by repeat' (first | (with_reducible assumption) | (with_reducible refine Tab.alloc ?_ _) | (with_reducible refine Tab.drew ?_) | (with_reducible refine Tab.drewN ?_ _) | (with_reducible refine Tab.setCell ?_ ?_ ?_ _) | omega | (simp; done) | (simp; omega)))).mono ?_); rintro e w3 ⟨rfl, hk3⟩; obtain ⟨hc3, hf3⟩ := bcell hk3.2; have ht3 := hk3.1; have hz3 := hk3.2.size; (try simp only [World.size_alloc] at hz3); (try simp only [sz_drew] at hz3); (try simp only [sz_drewN] at hz3); (try simp only [World.size_alloc] at hz3); (try simp only [sz_drew] at hc3 hf3); (try simp only [sz_drewN] at hc3 hf3); (try have hw3 : w.heap.size < w3.heap.size := by omega); (try have hv3 : w.heap.size + 1 < w3.heap.size := by omega); (try have hu3 : w.heap.size + 2 < w3.heap.size := by omega)))
      go_cut [4] (fun s4 wx => ∃ B : Nat, s4 = .pointer (some ⟨B, 0, none⟩) ∧ w.heap.size + 1 < B ∧ Inv w [(w.heap.size, 44, [.bool neg, .int .u64 (hiW N2 : Int), .int .u64 (loW N2 : Int), .int .i64 (e - d - 1), .bool m]), (w.heap.size + 1, 44, [.bool false, .int .u64 0, .int .u64 0, .int .i64 0, .bool false]), (B, 42, [.int .u64 (hiW q : Int), .int .u64 (loW q : Int)])] wx)
      case first =>
        go_wp2_with (first | (go_at_call 64; (with_reducible refine (HT1.out _ (by repeat' (first | (with_reducible assumption) | (with_reducible refine Tab.alloc ?_ _) | (with_reducible refine Tab.drew ?_) | (with_reducible refine Tab.drewN ?_ _) | (with_reducible refine Tab.setCell ?_ ?_ ?_ _) | omega | (simp; done) | (simp; omega)))).mono ?_); rintro e w4 ⟨rfl, hk4⟩; obtain ⟨hc4, hf4⟩ := bcell hk4.2; have ht4 := hk4.1; have hz4 := hk4.2.size; (try simp only [World.size_alloc] at hz4); (try simp only [sz_drew] at hz4); (try simp only [sz_drewN] at hz4); (try simp only [World.size_alloc] at hz4); (try simp only [sz_drew] at hc4 hf4); (try simp only [sz_drewN] at hc4 hf4); (try have hw4 : w.heap.size < w4.heap.size := by omega); (try have hv4 : w.heap.size + 1 < w4.heap.size := by omega); (try have hu4 : w.heap.size + 2 < w4.heap.size := by omega)))
        go_meet
        exact ⟨_, rfl, by omega, (((HI.out.call hk3).call hk4).alloc _).more (bs := [_, _]) (Own.new w4 _ [_, _])⟩
      case rest =>
        obtain ⟨B, rfl, hB, hI⟩ := hcut
        clear HI x0 x1 x2 x3 x4 xf xl z0 z1 z2 z3 z4 zf zl
        (have x0 : wc.cell? ⟨w.heap.size, 0, none⟩ = some (.bool neg) := (hI.own 0 _ rfl).cell 0; have x1 : wc.cell? ⟨w.heap.size, 1, none⟩ = some (.int .u64 (hiW N2 : Int)) := (hI.own 0 _ rfl).cell 1; have x2 : wc.cell? ⟨w.heap.size, 2, none⟩ = some (.int .u64 (loW N2 : Int)) := (hI.own 0 _ rfl).cell 2; have x3 : wc.cell? ⟨w.heap.size, 3, none⟩ = some (.int .i64 (e - d - 1)) := (hI.own 0 _ rfl).cell 3; have x4 : wc.cell? ⟨w.heap.size, 4, none⟩ = some (.bool m) := (hI.own 0 _ rfl).cell 4; have xf := fun i => (hI.own 0 _ rfl).frozen i; have xl : w.heap.size < wc.heap.size := (hI.own 0 _ rfl).lt)
        (have z0 : wc.cell? ⟨w.heap.size + 1, 0, none⟩ = some (.bool false) := (hI.own 1 _ rfl).cell 0; have z1 : wc.cell? ⟨w.heap.size + 1, 1, none⟩ = some (.int .u64 0) := (hI.own 1 _ rfl).cell 1; have z2 : wc.cell? ⟨w.heap.size + 1, 2, none⟩ = some (.int .u64 0) := (hI.own 1 _ rfl).cell 2; have z3 : wc.cell? ⟨w.heap.size + 1, 3, none⟩ = some (.int .i64 0) := (hI.own 1 _ rfl).cell 3; have z4 : wc.cell? ⟨w.heap.size + 1, 4, none⟩ = some (.bool false) := (hI.own 1 _ rfl).cell 4; have zf := fun i => (hI.own 1 _ rfl).frozen i; have zl : w.heap.size + 1 < wc.heap.size := (hI.own 1 _ rfl).lt)
        (have y0 : wc.cell? ⟨B, 0, none⟩ = some (.int .u64 (hiW q : Int)) := (hI.own 2 _ rfl).cell 0; have y1 : wc.cell? ⟨B, 1, none⟩ = some (.int .u64 (loW q : Int)) := (hI.own 2 _ rfl).cell 1; have yf := fun i => (hI.own 2 _ rfl).frozen i; have yl : B < wc.heap.size := (hI.own 2 _ rfl).lt)
        have hK := hI.kept
        have HZ := Lib.hid (hI.own 1 _ rfl)
        have hBn : ¬ w.heap.size + 1 = B := by omega
        have hBn2 : ¬ B = w.heap.size + 1 := by omega
        clear hI
        by_cases hsq : q = N2
        · subst hsq
          obtain rfl : mo = false := by rw [← hmo]; simp
          clear hmo
          go_upto_region 8 with fail
          go_region_held3 (fun w' => w'.cell? ⟨w.heap.size, 1, none⟩ = some (.int .u64 (hiW q : Int)) ∧ w'.cell? ⟨w.heap.size, 2, none⟩ = some (.int .u64 (loW q : Int)) ∧ w'.cell? ⟨w.heap.size, 3, none⟩ = some (.int .i64 (e - d - 1)) ∧ w'.cell? ⟨B, 0, none⟩ = some (.int .u64 (hiW q : Int)) ∧ w'.cell? ⟨B, 1, none⟩ = some (.int .u64 (loW q : Int))) (go_keep) (fail)
          go_wp2_with fail
          have hF := (((((HZ.out.drew).put 0 (.bool false)).put 1 (.int .u64 0)).put 2 (.int .u64 si)).put 3 (.int .i64 (IntKind.i64.wrap ((e - d - 1).tdiv 2)))).put 4 (.bool false)
          refine bodyPost_ret (ret_own rfl hF rfl Tryd.underlying44 rfl (by kernel_rfl)) rfl ?_
          exact ⟨ex_eq' rfl rfl HF.out rfl _, (by repeat' (first | (with_reducible assumption) | (with_reducible exact Kept.refl ht) | (with_reducible refine Kept.alloc ?_ _) | (with_reducible refine Kept.drew ?_) | (with_reducible refine Kept.drewN ?_ _) | (with_reducible refine Kept.setCell ?_ ?_ _ ?_ ?_) | (with_reducible refine Kept.trans ?_ (by assumption)) | omega | (simp; done) | (simp; omega)))⟩
        · obtain rfl : mo = true := by rw [← hmo]; simp [hsq]
          have hne : ¬ (hiW q = hiW N2 ∧ loW q = loW N2) := by
            rintro ⟨h1, h2⟩
            apply hsq
            rw [nat_eq q, nat_eq N2, h1, h2]
          clear hsq hmo HR HT1 HL hc3 hf3
          generalize hiW q = qh at *
          generalize loW q = ql at *
          generalize hiW N2 = Nh at *
          generalize loW N2 = Nl at *
          by_cases hh : qh = Nh
          · subst hh
            have hl : ¬ ql = Nl := fun h => hne ⟨rfl, h⟩
            have hl1 : ((ql : Int) == (Nl : Int)) = false := by rw [beq_eq_false_iff_ne]; omega
            have hl2 : decide (ql = Nl) = false := decide_eq_false hl
            have hl3 : ¬ (ql : Int) = (Nl : Int) := by omega
            clear hne
            go_upto_region 8 with fail
            go_region_held3 (fun w' => w'.cell? ⟨w.heap.size, 1, none⟩ = some (.int .u64 (qh : Int)) ∧ w'.cell? ⟨w.heap.size, 2, none⟩ = some (.int .u64 (Nl : Int)) ∧ w'.cell? ⟨w.heap.size, 3, none⟩ = some (.int .i64 (e - d - 1)) ∧ w'.cell? ⟨B, 0, none⟩ = some (.int .u64 (qh : Int)) ∧ w'.cell? ⟨B, 1, none⟩ = some (.int .u64 (ql : Int))) (go_keep) (fail)
            go_wp2_with fail
            have hF := (((((HZ.out.drew).put 0 (.bool false)).put 1 (.int .u64 0)).put 2 (.int .u64 si)).put 3 (.int .i64 (IntKind.i64.wrap ((e - d - 1).tdiv 2)))).put 4 (.bool true)
            refine bodyPost_ret (ret_own rfl hF rfl Tryd.underlying44 rfl (by kernel_rfl)) rfl ?_
            exact ⟨ex_eq' rfl rfl HF.out rfl _, (by repeat' (first | (with_reducible assumption) | (with_reducible exact Kept.refl ht) | (with_reducible refine Kept.alloc ?_ _) | (with_reducible refine Kept.drew ?_) | (with_reducible refine Kept.drewN ?_ _) | (with_reducible refine Kept.setCell ?_ ?_ _ ?_ ?_) | (with_reducible refine Kept.trans ?_ (by assumption)) | omega | (simp; done) | (simp; omega)))⟩
          · have hl1 : ((qh : Int) == (Nh : Int)) = false := by rw [beq_eq_false_iff_ne]; omega
            have hl2 : decide (qh = Nh) = false := decide_eq_false hh
            have hl3 : ¬ (qh : Int) = (Nh : Int) := by omega
            clear hne
            go_upto_region 8 with fail
            go_region_held3 (fun w' => w'.cell? ⟨w.heap.size, 1, none⟩ = some (.int .u64 (Nh : Int)) ∧ w'.cell? ⟨w.heap.size, 2, none⟩ = some (.int .u64 (Nl : Int)) ∧ w'.cell? ⟨w.heap.size, 3, none⟩ = some (.int .i64 (e - d - 1)) ∧ w'.cell? ⟨B, 0, none⟩ = some (.int .u64 (qh : Int)) ∧ w'.cell? ⟨B, 1, none⟩ = some (.int .u64 (ql : Int))) (go_keep) (fail)
            go_wp2_with fail
            have hF := (((((HZ.out.drew).put 0 (.bool false)).put 1 (.int .u64 0)).put 2 (.int .u64 si)).put 3 (.int .i64 (IntKind.i64.wrap ((e - d - 1).tdiv 2)))).put 4 (.bool true)
            refine bodyPost_ret (ret_own rfl hF rfl Tryd.underlying44 rfl (by kernel_rfl)) rfl ?_
            exact ⟨ex_eq' rfl rfl HF.out rfl _, (by repeat' (first | (with_reducible assumption) | (with_reducible exact Kept.refl ht) | (with_reducible refine Kept.alloc ?_ _) | (with_reducible refine Kept.drew ?_) | (with_reducible refine Kept.drewN ?_ _) | (with_reducible refine Kept.setCell ?_ ?_ _ ?_ ?_) | (with_reducible refine Kept.trans ?_ (by assumption)) | omega | (simp; done) | (simp; omega)))⟩

end Go.Proofs.YtanfhlkfmmglhaaDoor
