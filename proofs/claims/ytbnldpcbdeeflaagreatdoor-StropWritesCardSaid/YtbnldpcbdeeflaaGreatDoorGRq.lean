/- The reference's Check. Conditions: the symbol's text is not too long. -/
import Derived.Test.YtbnldpcbdeeflaaGreatDoorCs
import Derived.Test.YtbnldpcbdeeflaaGreatDoorNs
import Derived.BigRegion
namespace Go.Proofs.YtbnldpcbdeeflaaGreatDoor
open Go.ChangeShapes Go.WideShapes Go.ChangeAt Go.RowKit

theorem rcheck_kind (k : Int) (x : ByteArray) (p : Int) (w : World) (h : ¬ (0 ≤ k ∧ k ≤ 8)) : Calls Tryz.prog 15 #[.agg #[.int .i64 k, .string x, .int .i64 p]] w fun e w' => e = .returned (.int .i64 13) ∧ Below w.heap.size w w' := by
  by_cases h0 : k < 0
  · have q0 : decide (k < 0) = true := decide_eq_true h0
    clear h
    go_enter Tryz.func15, Tryz.ntmps15
    go_wp2_with fail
    go_returns
    exact ⟨rfl, (by repeat' (first | (with_reducible assumption) | (with_reducible exact Below.refl _ _) | (with_reducible refine Below.alloc ?_ ?_ _) | (with_reducible refine Below.setCell ?_ ?_ _) | (with_reducible refine Below.drew ?_) | (with_reducible refine Below.call ?_ ?_ (by assumption)) | (with_reducible exact Nat.le_refl _) | omega | (simp; done) | (simp; omega)))⟩
  · have q0 : decide (k < 0) = false := decide_eq_false h0
    have q1 : decide (k > 8) = true := decide_eq_true (by omega)
    clear h
    go_enter Tryz.func15, Tryz.ntmps15
    go_wp2_with fail
    go_returns
    exact ⟨rfl, (by repeat' (first | (with_reducible assumption) | (with_reducible exact Below.refl _ _) | (with_reducible refine Below.alloc ?_ ?_ _) | (with_reducible refine Below.setCell ?_ ?_ _) | (with_reducible refine Below.drew ?_) | (with_reducible refine Below.call ?_ ?_ (by assumption)) | (with_reducible exact Nat.le_refl _) | omega | (simp; done) | (simp; omega)))⟩
theorem rcheck_end (x : ByteArray) (p : Int) (w : World) : Calls Tryz.prog 15 #[.agg #[.int .i64 0, .string x, .int .i64 p]] w fun e w' => e = .returned (.int .i64 (if x = ⟨#[]⟩ then 0 else 2)) ∧ Below w.heap.size w w' := by
  by_cases h : x = ⟨#[]⟩
  · rw [if_pos h]
    subst h
    go_enter Tryz.func15, Tryz.ntmps15
    go_wp2_with fail
    go_returns
    exact ⟨rfl, (by repeat' (first | (with_reducible assumption) | (with_reducible exact Below.refl _ _) | (with_reducible refine Below.alloc ?_ ?_ _) | (with_reducible refine Below.setCell ?_ ?_ _) | (with_reducible refine Below.drew ?_) | (with_reducible refine Below.call ?_ ?_ (by assumption)) | (with_reducible exact Nat.le_refl _) | omega | (simp; done) | (simp; omega)))⟩
  · rw [if_neg h]
    have q0 : (x.toList == []) = false := by
      rw [beq_eq_false_iff_ne, ByteArray.toList_eq]
      intro e
      apply h
      obtain ⟨d⟩ := x
      have e2 : d.toList = [] := e
      rw [Array.toList_eq_nil_iff.1 e2]
    clear h
    go_enter Tryz.func15, Tryz.ntmps15
    go_wp2_with fail
    go_returns
    exact ⟨rfl, (by repeat' (first | (with_reducible assumption) | (with_reducible exact Below.refl _ _) | (with_reducible refine Below.alloc ?_ ?_ _) | (with_reducible refine Below.setCell ?_ ?_ _) | (with_reducible refine Below.drew ?_) | (with_reducible refine Below.call ?_ ?_ (by assumption)) | (with_reducible exact Nat.le_refl _) | omega | (simp; done) | (simp; omega)))⟩
theorem mem_pk {x : ByteArray} {k : Nat} (h : k < x.size) : cu (pk x k) ∈ x.data.toList := by
  rw [cu_in h]
  exact List.mem_of_getElem? (i := k) (by rw [Array.getElem?_toList]; exact Array.getElem?_eq_getElem h)
theorem take_pr {x : ByteArray} {k : Nat} (h : k < x.size) (h1 : ∀ c ∈ List.take k x.data.toList, bPr (c.toNat : Int) = true) (h2 : bPr (pk x k) = true) : ∀ c ∈ List.take (k + 1) x.data.toList, bPr (c.toNat : Int) = true := by
  intro c hc
  rw [List.take_add_one, List.getElem?_eq_getElem (by rw [Array.length_toList]; exact h)] at hc
  rcases List.mem_append.1 hc with hc | hc
  · exact h1 c hc
  · have e : c = x[k] := by
      simp only [Option.toList_some, List.mem_singleton] at hc
      exact hc
    rw [e, ← pk_in h]
    exact h2
set_option maxRecDepth 100000 in
set_option maxHeartbeats 4000000 in
theorem rcheck_string (x : ByteArray) (p : Int) (w : World) (hx : x.size ≤ 20000) : Calls Tryz.prog 15 #[.agg #[.int .i64 6, .string x, .int .i64 p]] w fun e w' => e = .returned (.int .i64 (chF 6 x)) ∧ Below w.heap.size w w' := by
  rw [ch_string x hx]
  obtain ⟨R, hR⟩ : ∃ R : Int, (if (∀ c ∈ x.data.toList, bPr (c.toNat : Int) = true) then (0 : Int) else 2) = R := ⟨_, rfl⟩
  rw [hR]
  have HR := Lib.hid hR
  clear hR
  go_enter Tryz.func15, Tryz.ntmps15
  go_wp2
  go_loopw [3, 4] (fun v3 v4 wr => ∃ k m : Nat, k ≤ x.size ∧ m ≤ 2 * k + 2 ∧ v3 = .int .i64 m ∧ v4 = .int .i64 k ∧ Below w.heap.size w wr ∧ wr.cell? ⟨w.heap.size, 1, none⟩ = some (.string x) ∧ ∀ c ∈ List.take k x.data.toList, bPr (c.toNat : Int) = true) (fun _ v4 _ => x.size - (intOf v4).toNat)
  case atStart => exact ⟨0, 2, Nat.zero_le _, Nat.le_refl _, rfl, rfl, (Below.refl _ w).alloc (Nat.le_refl _) _, Own.cell (Own.new w 31 [.int .i64 6, .string x, .int .i64 p]) 1, fun c hc => by cases hc⟩
  case round =>
    obtain ⟨k, m, hk, hm, rfl, rfl, hb, hcx, hpr⟩ := hrel
    have hlt := cell_lt hcx
    have HB := Lib.hid hb
    have HCX := Lib.hid hcx
    have HPR := Lib.hid hpr
    clear hb hpr
    by_cases hkx : k < x.size
    · have hp := pk_bd x k
      have hpi := (pk_in hkx).symm
      have HMEM := Lib.hid (mem_pk hkx)
      have HTP := Lib.hid (take_pr hkx HPR.out)
      have HCN := Lib.hid (show ((cu (pk x k)).toNat : Int) = pk x k by rw [cu_nat hp.1 hp.2, Int.toNat_of_nonneg hp.1])
      obtain ⟨q, hpe⟩ : ∃ q, pk x k = q := ⟨_, rfl⟩
      rw [hpe] at hp hpi HMEM HTP HCN
      clear hpe
      by_cases h32 : q < 32
      · have hRe : R = 2 := by rw [← HR.out, if_neg]; intro h; have h2 := h _ HMEM.out; rw [HCN.out] at h2; have h3 : 32 ≤ q ∧ q ≤ 126 := of_decide_eq_true h2; omega
        subst hRe
        have d1 : decide (q < 32) = true := decide_eq_true h32
        go_wp2
        go_returns
        exact ⟨rfl, HB.out⟩
      · have d1 : decide (q < 32) = false := decide_eq_false h32
        by_cases h126 : q > 126
        · have hRe : R = 2 := by rw [← HR.out, if_neg]; intro h; have h2 := h _ HMEM.out; rw [HCN.out] at h2; have h3 : 32 ≤ q ∧ q ≤ 126 := of_decide_eq_true h2; omega
          subst hRe
          have d2 : decide (q > 126) = true := decide_eq_true h126
          go_wp2
          go_returns
          exact ⟨rfl, HB.out⟩
        · have d2 : decide (q > 126) = false := decide_eq_false h126
          have HTQ := Lib.hid (HTP.out (decide_eq_true (by omega)))
          by_cases h34 : q = 34
          · subst h34
            go_wp2
            go_roundw
            case rel => exact ⟨k + 1, m + 1 + 1, hkx, by omega, by go_num, by go_num, HB.out, HCX.out, HTQ.out⟩
            case measure => simp [intOf]; omega
          · have d3 : (q == 34) = false := by rw [beq_eq_false_iff_ne]; exact h34
            go_wp2
            go_roundw
            case rel => exact ⟨k + 1, m + 1, hkx, by omega, by go_num, by go_num, HB.out, HCX.out, HTQ.out⟩
            case measure => simp [intOf]; omega
    · have hke : k = x.size := by omega
      subst hke
      have hRe : R = 0 := by
        rw [← HR.out, if_pos]
        have := HPR.out
        rw [List.take_of_length_le (by rw [Array.length_toList]; exact Nat.le_refl _)] at this
        exact this
      subst hRe
      go_wp2
      go_returns
      exact ⟨rfl, HB.out⟩
set_option maxRecDepth 100000 in
set_option maxHeartbeats 4000000 in
theorem rcheck_ok (k : Int) (x : ByteArray) (p z : Int) (w : World) (hk : 0 ≤ k ∧ k ≤ 8) (h0 : k ≠ 0) (h6 : k ≠ 6) (hx : x.size ≤ 20000) (hs : syF 0 (wrF k 0 x) = (0, 0, [(k, x, 0), (0, ⟨#[]⟩, z)])) :
    Calls Tryz.prog 15 #[.agg #[.int .i64 k, .string x, .int .i64 p]] w fun e w' => e = .returned (.int .i64 0) ∧ Below w.heap.size w w' := by
  have HW := Lib.hid (fun W => rwritten_any k x p 0 W (by omega) (by decide))
  have HSY : Hid (∀ W, Calls Tryz.prog 11 #[.string (wrF k 0 x), .int .i64 0] W (SyP W (0, 0, [(k, x, 0), (0, ⟨#[]⟩, z)]))) := Lib.hid (fun W => by rw [← hs]; exact rsymbols_any (wrF k 0 x) 0 W)
  have q0 : decide (k < 0) = false := decide_eq_false (by omega)
  have q1 : decide (k > 8) = false := decide_eq_false (by omega)
  have q2 : (k == 0) = false := by rw [beq_eq_false_iff_ne]; exact h0
  have q3 : (k == 6) = false := by rw [beq_eq_false_iff_ne]; exact h6
  obtain ⟨y, hy⟩ : ∃ y, wrF k 0 x = y := ⟨_, rfl⟩
  rw [hy] at HW HSY
  have hwr : IntKind.i64.wrap ((x.size : Int) + 2) = (x.size : Int) + 2 := IntWalk.i64_in _ (by omega)
  have q4 : decide ((x.size : Int) + 2 > 65536) = false := decide_eq_false (by omega)
  have q5 : decide (65536 < (x.size : Int) + 2) = false := decide_eq_false (by omega)
  clear hs hy h0 h6 hk hx
  go_enter Tryz.func15, Tryz.ntmps15
  go_upto_region 23 with (first | (go_at_call 25; (with_reducible refine (HW.out _).mono ?_); (rintro e w1 ⟨rfl, hb1⟩); (have hz1 := hb1.size); (simp only [World.size_alloc] at hz1); (have HB1 : Hid (Below w.heap.size w w1) := Lib.hid (((Below.refl w.heap.size w).alloc (Nat.le_refl _) _).trans (hb1.mono (by simp)))); (have hbc : w1.cell? ⟨w.heap.size, 0, none⟩ = some (.int .i64 k) ∧ w1.cell? ⟨w.heap.size, 1, none⟩ = some (.string x) := ⟨(hb1.cell (p := ⟨w.heap.size, 0, none⟩) (by simp)).trans (Own.cell (Own.new w 31 [.int .i64 k, .string x, .int .i64 p]) 0), (hb1.cell (p := ⟨w.heap.size, 1, none⟩) (by simp)).trans (Own.cell (Own.new w 31 [.int .i64 k, .string x, .int .i64 p]) 1)⟩); (have HBC := Lib.hid hbc); clear hbc hb1) | (go_at_call 11; (with_reducible refine (HSY.out _).mono ?_); (rintro e w2 ⟨v, rfl, hv, hb2⟩); (have hz2 := hb2.size); (have hw2 : w.heap.size < w2.heap.size := by omega); (have d0 : w2.cell? ⟨w.heap.size, 0, none⟩ = some (.int .i64 k) := (hb2.cell (p := ⟨w.heap.size, 0, none⟩) (by show w.heap.size < w1.heap.size; omega)).trans HBC.out.1); (have d1 : w2.cell? ⟨w.heap.size, 1, none⟩ = some (.string x) := (hb2.cell (p := ⟨w.heap.size, 1, none⟩) (by show w.heap.size < w1.heap.size; omega)).trans HBC.out.2); (obtain ⟨g, cap, rfl, hg1, hg2, hg3, hgc⟩ := Sl.form hv); (have e0 : w2.cell? ⟨g, 0, none⟩ = some (.int .i64 k) := hgc 0 _ rfl); (have e1 : w2.cell? ⟨g, 1, none⟩ = some (.string x) := hgc 1 _ rfl); (have HB2 := Lib.hid (HB1.out.trans (hb2.mono HB1.out.size))); clear hgc hv hb2))
  go_region
  go_wp2_with fail
  all_goals
    go_returns
    exact ⟨rfl, (HB2.out.alloc (by have := HB2.out.size; omega) _).drew⟩
end Go.Proofs.YtbnldpcbdeeflaaGreatDoor
/- The reference's Check in general. Condition: the symbol's text is not too long. -/
namespace Go.Proofs.YtbnldpcbdeeflaaGreatDoor
open Go.ChangeShapes Go.WideShapes Go.ChangeAt Go.RowKit

theorem sl_nn {w : World} {B : Nat} {v : Value} {l : List Sy} (h : Sl w B v l) (hl : l ≠ []) : ∃ g cap, v = .slice (some ⟨g, 0, none⟩) l.length cap ∧ l.length ≤ cap ∧ g < w.heap.size ∧ ∀ j u, (sy l)[j]? = some u → w.cell? ⟨g, j, none⟩ = some u := by
  rcases Sl.form2 h with ⟨_, h0⟩ | h1
  · exact absurd h0 hl
  · exact h1
set_option maxRecDepth 100000 in
set_option maxHeartbeats 4000000 in
theorem rcheck_f (k : Int) (x : ByteArray) (p : Int) (w : World) (hk : 0 ≤ k ∧ k ≤ 8) (h0 : k ≠ 0) (h6 : k ≠ 6) (hx : x.size ≤ 20000) (z c : Int) (l : List Sy) (hc : c ≠ 0) (hs : syF 0 (wrF k 0 x) = (z, c, l)) :
    Calls Tryz.prog 15 #[.agg #[.int .i64 k, .string x, .int .i64 p]] w fun e w' => e = .returned (.int .i64 2) ∧ Below w.heap.size w w' := by
  have HW := Lib.hid (fun W => rwritten_any k x p 0 W (by omega) (by decide))
  have HSY : Hid (∀ W, Calls Tryz.prog 11 #[.string (wrF k 0 x), .int .i64 0] W (SyP W (z, c, l))) := Lib.hid (fun W => by rw [← hs]; exact rsymbols_any (wrF k 0 x) 0 W)
  have q0 : decide (k < 0) = false := decide_eq_false (by omega)
  have q1 : decide (k > 8) = false := decide_eq_false (by omega)
  have q2 : (k == 0) = false := by rw [beq_eq_false_iff_ne]; exact h0
  have q3 : (k == 6) = false := by rw [beq_eq_false_iff_ne]; exact h6
  obtain ⟨y, hy⟩ : ∃ y, wrF k 0 x = y := ⟨_, rfl⟩
  rw [hy] at HW HSY
  have hwr : IntKind.i64.wrap ((x.size : Int) + 2) = (x.size : Int) + 2 := IntWalk.i64_in _ (by omega)
  have q4 : decide ((x.size : Int) + 2 > 65536) = false := decide_eq_false (by omega)
  have q5 : decide (65536 < (x.size : Int) + 2) = false := decide_eq_false (by omega)
  have c0 : (c != 0) = true := by rw [bne_iff_ne]; exact hc
  clear hc
  clear hs hy h0 h6 hk hx
  go_enter Tryz.func15, Tryz.ntmps15
  go_upto_region 23 with (first | (go_at_call 25; (with_reducible refine (HW.out _).mono ?_); (rintro e w1 ⟨rfl, hb1⟩); (have hz1 := hb1.size); (simp only [World.size_alloc] at hz1); (have HB1 : Hid (Below w.heap.size w w1) := Lib.hid (((Below.refl w.heap.size w).alloc (Nat.le_refl _) _).trans (hb1.mono (by simp)))); (have hbc : w1.cell? ⟨w.heap.size, 0, none⟩ = some (.int .i64 k) ∧ w1.cell? ⟨w.heap.size, 1, none⟩ = some (.string x) := ⟨(hb1.cell (p := ⟨w.heap.size, 0, none⟩) (by simp)).trans (Own.cell (Own.new w 31 [.int .i64 k, .string x, .int .i64 p]) 0), (hb1.cell (p := ⟨w.heap.size, 1, none⟩) (by simp)).trans (Own.cell (Own.new w 31 [.int .i64 k, .string x, .int .i64 p]) 1)⟩); (have HBC := Lib.hid hbc); clear hbc hb1) | (go_at_call 11; (with_reducible refine (HSY.out _).mono ?_); (rintro e w2 ⟨v, rfl, hv, hb2⟩); (have hz2 := hb2.size); (have hw2 : w.heap.size < w2.heap.size := by omega); (have d0 : w2.cell? ⟨w.heap.size, 0, none⟩ = some (.int .i64 k) := (hb2.cell (p := ⟨w.heap.size, 0, none⟩) (by show w.heap.size < w1.heap.size; omega)).trans HBC.out.1); (have d1 : w2.cell? ⟨w.heap.size, 1, none⟩ = some (.string x) := (hb2.cell (p := ⟨w.heap.size, 1, none⟩) (by show w.heap.size < w1.heap.size; omega)).trans HBC.out.2); (have HB2 := Lib.hid (HB1.out.trans (hb2.mono HB1.out.size))); clear hv hb2))
  go_region
  go_wp2_with fail
  all_goals
    go_returns
    exact ⟨rfl, (HB2.out.alloc (by have := HB2.out.size; omega) _).drew⟩
set_option maxRecDepth 100000 in
set_option maxHeartbeats 4000000 in
theorem rcheck_n (k : Int) (x : ByteArray) (p : Int) (w : World) (hk : 0 ≤ k ∧ k ≤ 8) (h0 : k ≠ 0) (h6 : k ≠ 6) (hx : x.size ≤ 20000) (z : Int) (l : List Sy) (hl : l ≠ []) (hn : l.length ≠ 2) (hs : syF 0 (wrF k 0 x) = (z, 0, l)) :
    Calls Tryz.prog 15 #[.agg #[.int .i64 k, .string x, .int .i64 p]] w fun e w' => e = .returned (.int .i64 2) ∧ Below w.heap.size w w' := by
  have HW := Lib.hid (fun W => rwritten_any k x p 0 W (by omega) (by decide))
  have HSY : Hid (∀ W, Calls Tryz.prog 11 #[.string (wrF k 0 x), .int .i64 0] W (SyP W (z, 0, l))) := Lib.hid (fun W => by rw [← hs]; exact rsymbols_any (wrF k 0 x) 0 W)
  have q0 : decide (k < 0) = false := decide_eq_false (by omega)
  have q1 : decide (k > 8) = false := decide_eq_false (by omega)
  have q2 : (k == 0) = false := by rw [beq_eq_false_iff_ne]; exact h0
  have q3 : (k == 6) = false := by rw [beq_eq_false_iff_ne]; exact h6
  obtain ⟨y, hy⟩ : ∃ y, wrF k 0 x = y := ⟨_, rfl⟩
  rw [hy] at HW HSY
  have hwr : IntKind.i64.wrap ((x.size : Int) + 2) = (x.size : Int) + 2 := IntWalk.i64_in _ (by omega)
  have q4 : decide ((x.size : Int) + 2 > 65536) = false := decide_eq_false (by omega)
  have q5 : decide (65536 < (x.size : Int) + 2) = false := decide_eq_false (by omega)
  have n0 : ((l.length : Int) != 2) = true := by rw [bne_iff_ne]; omega
  have n1 : ((l.length : Int) == 2) = false := by rw [beq_eq_false_iff_ne]; omega
  have n2 : (l.length != 2) = true := by rw [bne_iff_ne]; exact hn
  have n3 : (l.length == 2) = false := by rw [beq_eq_false_iff_ne]; exact hn
  have HL0 := Lib.hid hl
  clear hl hn
  clear hs hy h0 h6 hk hx
  go_enter Tryz.func15, Tryz.ntmps15
  go_upto_region 23 with (first | (go_at_call 25; (with_reducible refine (HW.out _).mono ?_); (rintro e w1 ⟨rfl, hb1⟩); (have hz1 := hb1.size); (simp only [World.size_alloc] at hz1); (have HB1 : Hid (Below w.heap.size w w1) := Lib.hid (((Below.refl w.heap.size w).alloc (Nat.le_refl _) _).trans (hb1.mono (by simp)))); (have hbc : w1.cell? ⟨w.heap.size, 0, none⟩ = some (.int .i64 k) ∧ w1.cell? ⟨w.heap.size, 1, none⟩ = some (.string x) := ⟨(hb1.cell (p := ⟨w.heap.size, 0, none⟩) (by simp)).trans (Own.cell (Own.new w 31 [.int .i64 k, .string x, .int .i64 p]) 0), (hb1.cell (p := ⟨w.heap.size, 1, none⟩) (by simp)).trans (Own.cell (Own.new w 31 [.int .i64 k, .string x, .int .i64 p]) 1)⟩); (have HBC := Lib.hid hbc); clear hbc hb1) | (go_at_call 11; (with_reducible refine (HSY.out _).mono ?_); (rintro e w2 ⟨v, rfl, hv, hb2⟩); (have hz2 := hb2.size); (have hw2 : w.heap.size < w2.heap.size := by omega); (have d0 : w2.cell? ⟨w.heap.size, 0, none⟩ = some (.int .i64 k) := (hb2.cell (p := ⟨w.heap.size, 0, none⟩) (by show w.heap.size < w1.heap.size; omega)).trans HBC.out.1); (have d1 : w2.cell? ⟨w.heap.size, 1, none⟩ = some (.string x) := (hb2.cell (p := ⟨w.heap.size, 1, none⟩) (by show w.heap.size < w1.heap.size; omega)).trans HBC.out.2); (obtain ⟨g, cap, rfl, hg1, hg2, hgc⟩ := sl_nn hv HL0.out); clear hgc; (have HB2 := Lib.hid (HB1.out.trans (hb2.mono HB1.out.size))); clear hv hb2))
  go_region
  go_wp2_with fail
  all_goals
    go_returns
    exact ⟨rfl, (HB2.out.alloc (by have := HB2.out.size; omega) _).drew⟩
set_option maxRecDepth 100000 in
set_option maxHeartbeats 4000000 in
theorem rcheck_k (k : Int) (x : ByteArray) (p : Int) (w : World) (hk : 0 ≤ k ∧ k ≤ 8) (h0 : k ≠ 0) (h6 : k ≠ 6) (hx : x.size ≤ 20000) (z k2 p2 : Int) (x2 : ByteArray) (u : Sy) (hkk : k2 ≠ k) (hs : syF 0 (wrF k 0 x) = (z, 0, [(k2, x2, p2), u])) :
    Calls Tryz.prog 15 #[.agg #[.int .i64 k, .string x, .int .i64 p]] w fun e w' => e = .returned (.int .i64 2) ∧ Below w.heap.size w w' := by
  have HW := Lib.hid (fun W => rwritten_any k x p 0 W (by omega) (by decide))
  have HSY : Hid (∀ W, Calls Tryz.prog 11 #[.string (wrF k 0 x), .int .i64 0] W (SyP W (z, 0, [(k2, x2, p2), u]))) := Lib.hid (fun W => by rw [← hs]; exact rsymbols_any (wrF k 0 x) 0 W)
  have q0 : decide (k < 0) = false := decide_eq_false (by omega)
  have q1 : decide (k > 8) = false := decide_eq_false (by omega)
  have q2 : (k == 0) = false := by rw [beq_eq_false_iff_ne]; exact h0
  have q3 : (k == 6) = false := by rw [beq_eq_false_iff_ne]; exact h6
  obtain ⟨y, hy⟩ : ∃ y, wrF k 0 x = y := ⟨_, rfl⟩
  rw [hy] at HW HSY
  have hwr : IntKind.i64.wrap ((x.size : Int) + 2) = (x.size : Int) + 2 := IntWalk.i64_in _ (by omega)
  have q4 : decide ((x.size : Int) + 2 > 65536) = false := decide_eq_false (by omega)
  have q5 : decide (65536 < (x.size : Int) + 2) = false := decide_eq_false (by omega)
  have n0 : (k2 != k) = true := by rw [bne_iff_ne]; exact hkk
  have n1 : (k2 == k) = false := by rw [beq_eq_false_iff_ne]; exact hkk
  clear hkk
  clear hs hy h0 h6 hk hx
  go_enter Tryz.func15, Tryz.ntmps15
  go_upto_region 23 with (first | (go_at_call 25; (with_reducible refine (HW.out _).mono ?_); (rintro e w1 ⟨rfl, hb1⟩); (have hz1 := hb1.size); (simp only [World.size_alloc] at hz1); (have HB1 : Hid (Below w.heap.size w w1) := Lib.hid (((Below.refl w.heap.size w).alloc (Nat.le_refl _) _).trans (hb1.mono (by simp)))); (have hbc : w1.cell? ⟨w.heap.size, 0, none⟩ = some (.int .i64 k) ∧ w1.cell? ⟨w.heap.size, 1, none⟩ = some (.string x) := ⟨(hb1.cell (p := ⟨w.heap.size, 0, none⟩) (by simp)).trans (Own.cell (Own.new w 31 [.int .i64 k, .string x, .int .i64 p]) 0), (hb1.cell (p := ⟨w.heap.size, 1, none⟩) (by simp)).trans (Own.cell (Own.new w 31 [.int .i64 k, .string x, .int .i64 p]) 1)⟩); (have HBC := Lib.hid hbc); clear hbc hb1) | (go_at_call 11; (with_reducible refine (HSY.out _).mono ?_); (rintro e w2 ⟨v, rfl, hv, hb2⟩); (have hz2 := hb2.size); (have hw2 : w.heap.size < w2.heap.size := by omega); (have d0 : w2.cell? ⟨w.heap.size, 0, none⟩ = some (.int .i64 k) := (hb2.cell (p := ⟨w.heap.size, 0, none⟩) (by show w.heap.size < w1.heap.size; omega)).trans HBC.out.1); (have d1 : w2.cell? ⟨w.heap.size, 1, none⟩ = some (.string x) := (hb2.cell (p := ⟨w.heap.size, 1, none⟩) (by show w.heap.size < w1.heap.size; omega)).trans HBC.out.2); (obtain ⟨g, cap, rfl, hg1, hg2, hg3, hgc⟩ := Sl.form hv); (have e0 : w2.cell? ⟨g, 0, none⟩ = some (.int .i64 k2) := hgc 0 _ rfl); clear hgc; (have HB2 := Lib.hid (HB1.out.trans (hb2.mono HB1.out.size))); clear hv hb2))
  go_region
  go_wp2_with fail
  all_goals
    go_returns
    exact ⟨rfl, (HB2.out.alloc (by have := HB2.out.size; omega) _).drew⟩
set_option maxRecDepth 100000 in
set_option maxHeartbeats 4000000 in
theorem rcheck_x (k : Int) (x : ByteArray) (p : Int) (w : World) (hk : 0 ≤ k ∧ k ≤ 8) (h0 : k ≠ 0) (h6 : k ≠ 6) (hx : x.size ≤ 20000) (z p2 : Int) (x2 : ByteArray) (u : Sy) (hxx : x2 ≠ x) (hs : syF 0 (wrF k 0 x) = (z, 0, [(k, x2, p2), u])) :
    Calls Tryz.prog 15 #[.agg #[.int .i64 k, .string x, .int .i64 p]] w fun e w' => e = .returned (.int .i64 2) ∧ Below w.heap.size w w' := by
  have HW := Lib.hid (fun W => rwritten_any k x p 0 W (by omega) (by decide))
  have HSY : Hid (∀ W, Calls Tryz.prog 11 #[.string (wrF k 0 x), .int .i64 0] W (SyP W (z, 0, [(k, x2, p2), u]))) := Lib.hid (fun W => by rw [← hs]; exact rsymbols_any (wrF k 0 x) 0 W)
  have q0 : decide (k < 0) = false := decide_eq_false (by omega)
  have q1 : decide (k > 8) = false := decide_eq_false (by omega)
  have q2 : (k == 0) = false := by rw [beq_eq_false_iff_ne]; exact h0
  have q3 : (k == 6) = false := by rw [beq_eq_false_iff_ne]; exact h6
  obtain ⟨y, hy⟩ : ∃ y, wrF k 0 x = y := ⟨_, rfl⟩
  rw [hy] at HW HSY
  have hwr : IntKind.i64.wrap ((x.size : Int) + 2) = (x.size : Int) + 2 := IntWalk.i64_in _ (by omega)
  have q4 : decide ((x.size : Int) + 2 > 65536) = false := decide_eq_false (by omega)
  have q5 : decide (65536 < (x.size : Int) + 2) = false := decide_eq_false (by omega)
  have n1 : (x2.toList == x.toList) = false := by rw [beq_eq_false_iff_ne, ByteArray.toList_eq, ByteArray.toList_eq]; exact fun e => hxx (ByteArray.ext (Array.toList_inj.1 e))
  have n0 : (x2.toList != x.toList) = true := by unfold bne; rw [n1]; rfl
  clear hxx
  clear hs hy h0 h6 hk hx
  go_enter Tryz.func15, Tryz.ntmps15
  go_upto_region 23 with (first | (go_at_call 25; (with_reducible refine (HW.out _).mono ?_); (rintro e w1 ⟨rfl, hb1⟩); (have hz1 := hb1.size); (simp only [World.size_alloc] at hz1); (have HB1 : Hid (Below w.heap.size w w1) := Lib.hid (((Below.refl w.heap.size w).alloc (Nat.le_refl _) _).trans (hb1.mono (by simp)))); (have hbc : w1.cell? ⟨w.heap.size, 0, none⟩ = some (.int .i64 k) ∧ w1.cell? ⟨w.heap.size, 1, none⟩ = some (.string x) := ⟨(hb1.cell (p := ⟨w.heap.size, 0, none⟩) (by simp)).trans (Own.cell (Own.new w 31 [.int .i64 k, .string x, .int .i64 p]) 0), (hb1.cell (p := ⟨w.heap.size, 1, none⟩) (by simp)).trans (Own.cell (Own.new w 31 [.int .i64 k, .string x, .int .i64 p]) 1)⟩); (have HBC := Lib.hid hbc); clear hbc hb1) | (go_at_call 11; (with_reducible refine (HSY.out _).mono ?_); (rintro e w2 ⟨v, rfl, hv, hb2⟩); (have hz2 := hb2.size); (have hw2 : w.heap.size < w2.heap.size := by omega); (have d0 : w2.cell? ⟨w.heap.size, 0, none⟩ = some (.int .i64 k) := (hb2.cell (p := ⟨w.heap.size, 0, none⟩) (by show w.heap.size < w1.heap.size; omega)).trans HBC.out.1); (have d1 : w2.cell? ⟨w.heap.size, 1, none⟩ = some (.string x) := (hb2.cell (p := ⟨w.heap.size, 1, none⟩) (by show w.heap.size < w1.heap.size; omega)).trans HBC.out.2); (obtain ⟨g, cap, rfl, hg1, hg2, hg3, hgc⟩ := Sl.form hv); (have e0 : w2.cell? ⟨g, 0, none⟩ = some (.int .i64 k) := hgc 0 _ rfl); (have e1 : w2.cell? ⟨g, 1, none⟩ = some (.string x2) := hgc 1 _ rfl); clear hgc; (have HB2 := Lib.hid (HB1.out.trans (hb2.mono HB1.out.size))); clear hv hb2))
  go_region
  go_wp2_with fail
  all_goals
    go_returns
    exact ⟨rfl, (HB2.out.alloc (by have := HB2.out.size; omega) _).drew⟩
theorem syF_nonempty {r : Int} {t : ByteArray} (h : (syF r t).2.1 = 0) : (syF r t).2.2 ≠ [] := by
  unfold syF at h ⊢
  split
  · rename_i h1; rw [if_pos h1] at h
    split
    · rename_i h2; rw [if_pos h2] at h
      split
      · simp
      · rename_i h3; rw [if_neg h3] at h; exact absurd h h3
    · rename_i h2; rw [if_neg h2] at h; exact absurd h (by decide)
  · rename_i h1; rw [if_neg h1] at h; exact absurd h (by decide)
/-- The reference's Check answers what the program's does. -/
theorem rcheck_any (k : Int) (x : ByteArray) (p : Int) (w : World) (hx : x.size ≤ 20000) : Calls Tryz.prog 15 #[.agg #[.int .i64 k, .string x, .int .i64 p]] w fun e w' => e = .returned (.int .i64 (chF k x)) ∧ Below w.heap.size w w' := by
  by_cases hk : 0 ≤ k ∧ k ≤ 8
  · by_cases h0 : k = 0
    · subst h0
      rw [ch_end]
      exact rcheck_end x p w
    by_cases h6 : k = 6
    · subst h6
      exact rcheck_string x p w hx
    by_cases hc : chF k x = 0
    · rw [hc]
      exact rcheck_ok k x p _ w hk h0 h6 hx (ch_rest h0 h6 (by omega) hc)
    · rw [ch_two hk hc]
      obtain ⟨⟨z, c, l⟩, hR⟩ : ∃ R, syF 0 (wrF k 0 x) = R := ⟨_, rfl⟩
      by_cases hcc : c = 0
      · subst hcc
        have hl0 : l ≠ [] := by
          have := syF_nonempty (r := 0) (t := wrF k 0 x) (by rw [hR])
          rw [hR] at this; exact this
        by_cases hn : l.length = 2
        · obtain ⟨s, u, rfl⟩ : ∃ s u, l = [s, u] := by
            match l, hn with
            | [s, u], _ => exact ⟨s, u, rfl⟩
          obtain ⟨k2, x2, p2⟩ := s
          by_cases hkk : k2 = k
          · subst hkk
            by_cases hxx : x2 = x
            · subst hxx
              exact absurd (ch_of hk (by rw [hR])) hc
            · exact rcheck_x k2 x p w hk h0 h6 hx z p2 x2 u hxx hR
          · exact rcheck_k k x p w hk h0 h6 hx z k2 p2 x2 u hkk hR
        · exact rcheck_n k x p w hk h0 h6 hx z l hl0 hn hR
      · exact rcheck_f k x p w hk h0 h6 hx z c l hcc hR
  · have : chF k x = 13 := by unfold chF; rw [if_neg hk]
    rw [this]
    exact rcheck_kind k x p w hk
end Go.Proofs.YtbnldpcbdeeflaaGreatDoor
