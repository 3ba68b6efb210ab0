/- Check: what is wrong with a symbol. Conditions: the symbol's text is not too long; the tables hold what they are laid with. -/
import Derived.Test.YtbnldpcbdeeflaaGreatDoorWq
import Derived.Test.YtbnldpcbdeeflaaGreatDoorLb
namespace Go.Proofs.YtbnldpcbdeeflaaGreatDoor
open Go.ChangeShapes Go.WideShapes Go.ChangeAt Go.RowKit

theorem sy_len (t : ByteArray) : ∀ (n a : Nat) (r : Int) (l : List Sy), t.size - a ≤ n → (syL r t a l).2.2.length ≤ l.length + (t.size - a) := by
  intro n
  induction n with
  | zero =>
    intro a r l h
    rw [sy_end (by omega)]
    exact Nat.le_add_right _ _
  | succ n ih =>
    intro a r l h
    rcases Nat.lt_or_ge a t.size with ha | ha
    · by_cases hc : (stR r t a l).c = 0
      · obtain ⟨m, h1, h2, h3, h4⟩ := st_up ha hc
        rw [sy_go ha hc h1]
        have hk := sk_ge t m
        have := ih (sk t m) (stR r t a l).r (stR r t a l).l (by omega)
        omega
      · rw [sy_bad ha hc]
        exact Nat.zero_le _
    · rw [sy_end ha]
      exact Nat.le_add_right _ _
theorem syF_bound (r : Int) (t : ByteArray) : (syF r t).2.2.length ≤ 65537 := by
  unfold syF
  by_cases hr : 0 ≤ r ∧ r ≤ 2
  · rw [if_pos hr]
    by_cases h : t.size ≤ 65536
    · rw [if_pos h]
      by_cases hc : (syL r t (sk t 0) []).2.1 = 0
      · rw [if_pos hc]
        have := sy_len t t.size (sk t 0) r [] (by omega)
        simp only [List.length_append, List.length_cons, List.length_nil] at this ⊢
        omega
      · rw [if_neg hc]; exact Nat.zero_le _
    · rw [if_neg h]; exact Nat.zero_le _
  · rw [if_neg hr]; exact Nat.zero_le _
/-- What Check answers. -/
def chF (k : Int) (x : ByteArray) : Int := if 0 ≤ k ∧ k ≤ 8 then (match (syF 0 (wrF k 0 x)).2.2 with
  | [] => 2
  | s :: _ => if s.1 = k ∧ s.2.1 = x then 0 else 2) else 13
theorem check_kind (k : Int) (x : ByteArray) (p : Int) (w : World) (h : ¬ (0 ≤ k ∧ k ≤ 8)) : Calls Tryz.prog 14 #[.agg #[.int .i64 k, .string x, .int .i64 p]] w fun e w' => e = .returned (.int .i64 13) ∧ Below w.heap.size w w' := by
  by_cases h0 : k < 0
  · have q0 : decide (k < 0) = true := decide_eq_true h0
    clear h
    go_enter Tryz.func14, Tryz.ntmps14
    go_wp2_with fail
    go_returns
    exact ⟨rfl, (by repeat' (first | (with_reducible assumption) | (with_reducible exact Below.refl _ _) | (with_reducible refine Below.alloc ?_ ?_ _) | (with_reducible refine Below.setCell ?_ ?_ _) | (with_reducible refine Below.drew ?_) | (with_reducible refine Below.call ?_ ?_ (by assumption)) | (with_reducible exact Nat.le_refl _) | omega | (simp; done) | (simp; omega)))⟩
  · have q0 : decide (k < 0) = false := decide_eq_false h0
    have q1 : decide (k > 8) = true := decide_eq_true (by omega)
    clear h
    go_enter Tryz.func14, Tryz.ntmps14
    go_wp2_with fail
    go_returns
    exact ⟨rfl, (by repeat' (first | (with_reducible assumption) | (with_reducible exact Below.refl _ _) | (with_reducible refine Below.alloc ?_ ?_ _) | (with_reducible refine Below.setCell ?_ ?_ _) | (with_reducible refine Below.drew ?_) | (with_reducible refine Below.call ?_ ?_ (by assumption)) | (with_reducible exact Nat.le_refl _) | omega | (simp; done) | (simp; omega)))⟩
theorem Sl.none {w : World} {B : Nat} {v : Value} (h : Sl w B v []) : v = .slice none 0 0 ∨ ∃ g cap, v = .slice (some ⟨g, 0, none⟩) 0 cap := by
  rcases h.2 with ⟨h0, _⟩ | ⟨g, cap, cur, hv, _⟩
  · exact Or.inl h0
  · exact Or.inr ⟨g, cap, hv⟩
set_option maxRecDepth 100000 in
set_option maxHeartbeats 4000000 in
theorem check_nil (k : Int) (x : ByteArray) (p i c : Int) (w : World) (h0 : 0 ≤ k ∧ k ≤ 8) (hx : x.size ≤ 100000) (hq : (dbQ x).size ≤ 300000) (hs : syF 0 (wrF k 0 x) = (i, c, [])) (h : Wo w) :
    Calls Tryz.prog 14 #[.agg #[.int .i64 k, .string x, .int .i64 p]] w fun e w' => e = .returned (.int .i64 2) ∧ Below w.heap.size w w' := by
  have HW : Hid (∀ W, Below w.heap.size w W → Calls Tryz.prog 24 #[.agg #[.int .i64 k, .string x, .int .i64 p], .int .i64 0] W fun e w' => e = .returned (.string (wrF k 0 x)) ∧ Below W.heap.size W w') := Lib.hid (fun W hb => written_any k x p 0 W hx hq (fun _ h => absurd h (by decide)) (h.call hb).1)
  have HSY : Hid (∀ W, Below w.heap.size w W → Calls Tryz.prog 10 #[.string (wrF k 0 x), .int .i64 0] W (SyP W (i, c, []))) := Lib.hid (fun W hb => by rw [← hs]; exact (h.call hb).sym (wrF k 0 x) 0)
  have q0 : decide (k < 0) = false := decide_eq_false (by omega)
  have q1 : decide (k > 8) = false := decide_eq_false (by omega)
  obtain ⟨y, hy⟩ : ∃ y, wrF k 0 x = y := ⟨_, rfl⟩
  rw [hy] at HW HSY
  clear hs h hy h0 hq
  go_enter Tryz.func14, Tryz.ntmps14
  go_upto_region 4 with (first | (go_at_call 24; (with_reducible refine (HW.out _ (by (try exact (Below.refl w.heap.size w).alloc (Nat.le_refl _) _))).mono ?_); (rintro e w1 ⟨rfl, hb1⟩); (have hz1 := hb1.size); (simp only [World.size_alloc] at hz1); (have HB1 : Hid (Below w.heap.size w w1) := Lib.hid (((Below.refl w.heap.size w).alloc (Nat.le_refl _) _).trans (hb1.mono (by simp)))); (have hbc : w1.cell? ⟨w.heap.size, 0, none⟩ = some (.int .i64 k) ∧ w1.cell? ⟨w.heap.size, 1, none⟩ = some (.string x) := ⟨(hb1.cell (p := ⟨w.heap.size, 0, none⟩) (by simp)).trans (Own.cell (Own.new w 31 [.int .i64 k, .string x, .int .i64 p]) 0), (hb1.cell (p := ⟨w.heap.size, 1, none⟩) (by simp)).trans (Own.cell (Own.new w 31 [.int .i64 k, .string x, .int .i64 p]) 1)⟩); (have HBC := Lib.hid hbc); clear hbc hb1) | (go_at_call 10; (with_reducible refine (HSY.out _ HB1.out).mono ?_); (rintro e w2 ⟨v, rfl, hv, hb2⟩); (have hz2 := hb2.size); (have hw2 : w.heap.size < w2.heap.size := by omega); (have d0 : w2.cell? ⟨w.heap.size, 0, none⟩ = some (.int .i64 k) := (hb2.cell (p := ⟨w.heap.size, 0, none⟩) (by show w.heap.size < w1.heap.size; omega)).trans HBC.out.1); (have d1 : w2.cell? ⟨w.heap.size, 1, none⟩ = some (.string x) := (hb2.cell (p := ⟨w.heap.size, 1, none⟩) (by show w.heap.size < w1.heap.size; omega)).trans HBC.out.2); (have hv2 := Sl.none hv); (have HB2 := Lib.hid (HB1.out.trans (hb2.mono HB1.out.size))); clear hv hb2; (rcases hv2 with rfl | ⟨g, cap, rfl⟩)))
  all_goals
    go_region
    go_wp2_with fail
  all_goals
    go_returns
    exact ⟨rfl, (HB2.out.alloc (by have := HB2.out.size; omega) _).drew⟩
set_option maxRecDepth 100000 in
set_option maxHeartbeats 4000000 in
theorem check_ok (k : Int) (x : ByteArray) (p i c q : Int) (rest : List Sy) (w : World) (h0 : 0 ≤ k ∧ k ≤ 8) (hx : x.size ≤ 100000) (hq : (dbQ x).size ≤ 300000) (hrl : rest.length ≤ 65537) (hs : syF 0 (wrF k 0 x) = (i, c, (k, x, q) :: rest)) (h : Wo w) :
    Calls Tryz.prog 14 #[.agg #[.int .i64 k, .string x, .int .i64 p]] w fun e w' => e = .returned (.int .i64 0) ∧ Below w.heap.size w w' := by
  have HW : Hid (∀ W, Below w.heap.size w W → Calls Tryz.prog 24 #[.agg #[.int .i64 k, .string x, .int .i64 p], .int .i64 0] W fun e w' => e = .returned (.string (wrF k 0 x)) ∧ Below W.heap.size W w') := Lib.hid (fun W hb => written_any k x p 0 W hx hq (fun _ h => absurd h (by decide)) (h.call hb).1)
  have HSY : Hid (∀ W, Below w.heap.size w W → Calls Tryz.prog 10 #[.string (wrF k 0 x), .int .i64 0] W (SyP W (i, c, (k, x, q) :: rest))) := Lib.hid (fun W hb => by rw [← hs]; exact (h.call hb).sym (wrF k 0 x) 0)
  have q0 : decide (k < 0) = false := decide_eq_false (by omega)
  have q1 : decide (k > 8) = false := decide_eq_false (by omega)
  have hl0 : ((rest.length : Int) + 1 == 0) = false := by rw [beq_eq_false_iff_ne]; omega
  obtain ⟨y, hy⟩ : ∃ y, wrF k 0 x = y := ⟨_, rfl⟩
  rw [hy] at HW HSY
  clear hs h hy h0 hq
  go_enter Tryz.func14, Tryz.ntmps14
  go_upto_region 4 with (first | (go_at_call 24; (with_reducible refine (HW.out _ (by (try exact (Below.refl w.heap.size w).alloc (Nat.le_refl _) _))).mono ?_); (rintro e w1 ⟨rfl, hb1⟩); (have hz1 := hb1.size); (simp only [World.size_alloc] at hz1); (have HB1 : Hid (Below w.heap.size w w1) := Lib.hid (((Below.refl w.heap.size w).alloc (Nat.le_refl _) _).trans (hb1.mono (by simp)))); (have hbc : w1.cell? ⟨w.heap.size, 0, none⟩ = some (.int .i64 k) ∧ w1.cell? ⟨w.heap.size, 1, none⟩ = some (.string x) := ⟨(hb1.cell (p := ⟨w.heap.size, 0, none⟩) (by simp)).trans (Own.cell (Own.new w 31 [.int .i64 k, .string x, .int .i64 p]) 0), (hb1.cell (p := ⟨w.heap.size, 1, none⟩) (by simp)).trans (Own.cell (Own.new w 31 [.int .i64 k, .string x, .int .i64 p]) 1)⟩); (have HBC := Lib.hid hbc); clear hbc hb1) | (go_at_call 10; (with_reducible refine (HSY.out _ HB1.out).mono ?_); (rintro e w2 ⟨v, rfl, hv, hb2⟩); (have hz2 := hb2.size); (have hw2 : w.heap.size < w2.heap.size := by omega); (have d0 : w2.cell? ⟨w.heap.size, 0, none⟩ = some (.int .i64 k) := (hb2.cell (p := ⟨w.heap.size, 0, none⟩) (by show w.heap.size < w1.heap.size; omega)).trans HBC.out.1); (have d1 : w2.cell? ⟨w.heap.size, 1, none⟩ = some (.string x) := (hb2.cell (p := ⟨w.heap.size, 1, none⟩) (by show w.heap.size < w1.heap.size; omega)).trans HBC.out.2); (obtain ⟨g, cap, rfl, hg1, hg2, hg3, hgc⟩ := Sl.form hv); (have e0 : w2.cell? ⟨g, 0, none⟩ = some (.int .i64 k) := hgc 0 _ rfl); (have e1 : w2.cell? ⟨g, 1, none⟩ = some (.string x) := hgc 1 _ rfl); (have HB2 := Lib.hid (HB1.out.trans (hb2.mono HB1.out.size))); clear hgc hv hb2))
  go_region
  go_wp2_with fail
  all_goals
    go_returns
    exact ⟨rfl, (HB2.out.alloc (by have := HB2.out.size; omega) _).drew⟩
set_option maxRecDepth 100000 in
set_option maxHeartbeats 4000000 in
theorem check_head (k : Int) (x : ByteArray) (p i c q : Int) (k2 : Int) (x2 : ByteArray) (rest : List Sy) (w : World) (h0 : 0 ≤ k ∧ k ≤ 8) (hx : x.size ≤ 100000) (hq : (dbQ x).size ≤ 300000) (hrl : rest.length ≤ 65537) (hk : k2 ≠ k) (hs : syF 0 (wrF k 0 x) = (i, c, (k2, x2, q) :: rest)) (h : Wo w) :
    Calls Tryz.prog 14 #[.agg #[.int .i64 k, .string x, .int .i64 p]] w fun e w' => e = .returned (.int .i64 2) ∧ Below w.heap.size w w' := by
  have HW : Hid (∀ W, Below w.heap.size w W → Calls Tryz.prog 24 #[.agg #[.int .i64 k, .string x, .int .i64 p], .int .i64 0] W fun e w' => e = .returned (.string (wrF k 0 x)) ∧ Below W.heap.size W w') := Lib.hid (fun W hb => written_any k x p 0 W hx hq (fun _ h => absurd h (by decide)) (h.call hb).1)
  have HSY : Hid (∀ W, Below w.heap.size w W → Calls Tryz.prog 10 #[.string (wrF k 0 x), .int .i64 0] W (SyP W (i, c, (k2, x2, q) :: rest))) := Lib.hid (fun W hb => by rw [← hs]; exact (h.call hb).sym (wrF k 0 x) 0)
  have q0 : decide (k < 0) = false := decide_eq_false (by omega)
  have q1 : decide (k > 8) = false := decide_eq_false (by omega)
  have hl0 : ((rest.length : Int) + 1 == 0) = false := by rw [beq_eq_false_iff_ne]; omega
  have q2 : (k2 != k) = true := by rw [bne_iff_ne]; exact hk
  obtain ⟨y, hy⟩ : ∃ y, wrF k 0 x = y := ⟨_, rfl⟩
  rw [hy] at HW HSY
  clear hs h hy h0 hq hk
  go_enter Tryz.func14, Tryz.ntmps14
  go_upto_region 4 with (first | (go_at_call 24; (with_reducible refine (HW.out _ (by (try exact (Below.refl w.heap.size w).alloc (Nat.le_refl _) _))).mono ?_); (rintro e w1 ⟨rfl, hb1⟩); (have hz1 := hb1.size); (simp only [World.size_alloc] at hz1); (have HB1 : Hid (Below w.heap.size w w1) := Lib.hid (((Below.refl w.heap.size w).alloc (Nat.le_refl _) _).trans (hb1.mono (by simp)))); (have hbc : w1.cell? ⟨w.heap.size, 0, none⟩ = some (.int .i64 k) ∧ w1.cell? ⟨w.heap.size, 1, none⟩ = some (.string x) := ⟨(hb1.cell (p := ⟨w.heap.size, 0, none⟩) (by simp)).trans (Own.cell (Own.new w 31 [.int .i64 k, .string x, .int .i64 p]) 0), (hb1.cell (p := ⟨w.heap.size, 1, none⟩) (by simp)).trans (Own.cell (Own.new w 31 [.int .i64 k, .string x, .int .i64 p]) 1)⟩); (have HBC := Lib.hid hbc); clear hbc hb1) | (go_at_call 10; (with_reducible refine (HSY.out _ HB1.out).mono ?_); (rintro e w2 ⟨v, rfl, hv, hb2⟩); (have hz2 := hb2.size); (have hw2 : w.heap.size < w2.heap.size := by omega); (have d0 : w2.cell? ⟨w.heap.size, 0, none⟩ = some (.int .i64 k) := (hb2.cell (p := ⟨w.heap.size, 0, none⟩) (by show w.heap.size < w1.heap.size; omega)).trans HBC.out.1); (have d1 : w2.cell? ⟨w.heap.size, 1, none⟩ = some (.string x) := (hb2.cell (p := ⟨w.heap.size, 1, none⟩) (by show w.heap.size < w1.heap.size; omega)).trans HBC.out.2); (obtain ⟨g, cap, rfl, hg1, hg2, hg3, hgc⟩ := Sl.form hv); (have e0 : w2.cell? ⟨g, 0, none⟩ = some (.int .i64 k2) := hgc 0 _ rfl); (have e1 : w2.cell? ⟨g, 1, none⟩ = some (.string x2) := hgc 1 _ rfl); (have HB2 := Lib.hid (HB1.out.trans (hb2.mono HB1.out.size))); clear hgc hv hb2))
  go_region
  go_wp2_with fail
  all_goals
    go_returns
    exact ⟨rfl, (HB2.out.alloc (by have := HB2.out.size; omega) _).drew⟩
set_option maxRecDepth 100000 in
set_option maxHeartbeats 4000000 in
theorem check_text (k : Int) (x : ByteArray) (p i c q : Int) (x2 : ByteArray) (rest : List Sy) (w : World) (h0 : 0 ≤ k ∧ k ≤ 8) (hx : x.size ≤ 100000) (hq : (dbQ x).size ≤ 300000) (hrl : rest.length ≤ 65537) (hk : x2 ≠ x) (hs : syF 0 (wrF k 0 x) = (i, c, (k, x2, q) :: rest)) (h : Wo w) :
    Calls Tryz.prog 14 #[.agg #[.int .i64 k, .string x, .int .i64 p]] w fun e w' => e = .returned (.int .i64 2) ∧ Below w.heap.size w w' := by
  have HW : Hid (∀ W, Below w.heap.size w W → Calls Tryz.prog 24 #[.agg #[.int .i64 k, .string x, .int .i64 p], .int .i64 0] W fun e w' => e = .returned (.string (wrF k 0 x)) ∧ Below W.heap.size W w') := Lib.hid (fun W hb => written_any k x p 0 W hx hq (fun _ h => absurd h (by decide)) (h.call hb).1)
  have HSY : Hid (∀ W, Below w.heap.size w W → Calls Tryz.prog 10 #[.string (wrF k 0 x), .int .i64 0] W (SyP W (i, c, (k, x2, q) :: rest))) := Lib.hid (fun W hb => by rw [← hs]; exact (h.call hb).sym (wrF k 0 x) 0)
  have q0 : decide (k < 0) = false := decide_eq_false (by omega)
  have q1 : decide (k > 8) = false := decide_eq_false (by omega)
  have hl0 : ((rest.length : Int) + 1 == 0) = false := by rw [beq_eq_false_iff_ne]; omega
  have q2 : (x2.toList == x.toList) = false := by
    rw [beq_eq_false_iff_ne]
    intro e
    rw [ByteArray.toList_eq, ByteArray.toList_eq] at e
    exact hk (bytes_inj e)
  obtain ⟨y, hy⟩ : ∃ y, wrF k 0 x = y := ⟨_, rfl⟩
  rw [hy] at HW HSY
  clear hs h hy h0 hq hk
  go_enter Tryz.func14, Tryz.ntmps14
  go_upto_region 4 with (first | (go_at_call 24; (with_reducible refine (HW.out _ (by (try exact (Below.refl w.heap.size w).alloc (Nat.le_refl _) _))).mono ?_); (rintro e w1 ⟨rfl, hb1⟩); (have hz1 := hb1.size); (simp only [World.size_alloc] at hz1); (have HB1 : Hid (Below w.heap.size w w1) := Lib.hid (((Below.refl w.heap.size w).alloc (Nat.le_refl _) _).trans (hb1.mono (by simp)))); (have hbc : w1.cell? ⟨w.heap.size, 0, none⟩ = some (.int .i64 k) ∧ w1.cell? ⟨w.heap.size, 1, none⟩ = some (.string x) := ⟨(hb1.cell (p := ⟨w.heap.size, 0, none⟩) (by simp)).trans (Own.cell (Own.new w 31 [.int .i64 k, .string x, .int .i64 p]) 0), (hb1.cell (p := ⟨w.heap.size, 1, none⟩) (by simp)).trans (Own.cell (Own.new w 31 [.int .i64 k, .string x, .int .i64 p]) 1)⟩); (have HBC := Lib.hid hbc); clear hbc hb1) | (go_at_call 10; (with_reducible refine (HSY.out _ HB1.out).mono ?_); (rintro e w2 ⟨v, rfl, hv, hb2⟩); (have hz2 := hb2.size); (have hw2 : w.heap.size < w2.heap.size := by omega); (have d0 : w2.cell? ⟨w.heap.size, 0, none⟩ = some (.int .i64 k) := (hb2.cell (p := ⟨w.heap.size, 0, none⟩) (by show w.heap.size < w1.heap.size; omega)).trans HBC.out.1); (have d1 : w2.cell? ⟨w.heap.size, 1, none⟩ = some (.string x) := (hb2.cell (p := ⟨w.heap.size, 1, none⟩) (by show w.heap.size < w1.heap.size; omega)).trans HBC.out.2); (obtain ⟨g, cap, rfl, hg1, hg2, hg3, hgc⟩ := Sl.form hv); (have e0 : w2.cell? ⟨g, 0, none⟩ = some (.int .i64 k) := hgc 0 _ rfl); (have e1 : w2.cell? ⟨g, 1, none⟩ = some (.string x2) := hgc 1 _ rfl); (have HB2 := Lib.hid (HB1.out.trans (hb2.mono HB1.out.size))); clear hgc hv hb2))
  go_region
  go_wp2_with fail
  all_goals
    go_returns
    exact ⟨rfl, (HB2.out.alloc (by have := HB2.out.size; omega) _).drew⟩
/-- Check answers as the plain function says. -/
theorem check_any (k : Int) (x : ByteArray) (p : Int) (w : World) (hx : x.size ≤ 100000) (hq : (dbQ x).size ≤ 300000) (h : Wo w) :
    Calls Tryz.prog 14 #[.agg #[.int .i64 k, .string x, .int .i64 p]] w fun e w' => e = .returned (.int .i64 (chF k x)) ∧ Below w.heap.size w w' := by
  unfold chF
  by_cases h0 : 0 ≤ k ∧ k ≤ 8
  · rw [if_pos h0]
    have hb := syF_bound 0 (wrF k 0 x)
    rcases hs : syF 0 (wrF k 0 x) with ⟨i, c, l⟩
    rw [hs] at hb
    cases l with
    | nil => exact check_nil k x p i c w h0 hx hq hs h
    | cons s rest =>
      obtain ⟨k2, x2, q⟩ := s
      have hr : rest.length ≤ 65537 := by simp only [List.length_cons] at hb; omega
      by_cases h1 : k2 = k
      · subst h1
        by_cases h2 : x2 = x
        · subst h2
          have := check_ok k2 x2 p i c q rest w h0 hx hq hr hs h
          simpa using this
        · have := check_text k2 x p i c q x2 rest w h0 hx hq hr h2 hs h
          simpa [h2] using this
      · have := check_head k x p i c q k2 x2 rest w h0 hx hq hr h1 hs h
        simpa [h1] using this
  · rw [if_neg h0]
    exact check_kind k x p w h0
end Go.Proofs.YtbnldpcbdeeflaaGreatDoor
