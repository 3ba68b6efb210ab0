/- How the reference writes symbols. Condition: the symbol's text is not too long. -/
import Derived.Test.YtbnldpcbdeeflaaGreatDoorGMt
import Derived.Test.YtbnldpcbdeeflaaGreatDoorLb
namespace Go.Proofs.YtbnldpcbdeeflaaGreatDoor
open Go.ChangeShapes Go.WideShapes Go.ChangeAt Go.RowKit

theorem rjoined_any (k : Int) (x : ByteArray) (p : Int) (w : World) : Calls Tryz.prog 30 #[.agg #[.int .i64 k, .string x, .int .i64 p]] w fun e w' => e = .returned (.bool (opn k)) ∧ Below w.heap.size w w' := by
  by_cases h : 2 ≤ k ∧ k ≤ 5
  · have hR : opn k = true := decide_eq_true h
    rw [hR]
    rcases (by omega : k = 2 ∨ k = 3 ∨ k = 4 ∨ k = 5) with rfl | rfl | rfl | rfl
    all_goals
      go_enter Tryz.func30, Tryz.ntmps30
      go_wp2
      go_returns
      exact ⟨rfl, (by repeat' (first | (with_reducible assumption) | (with_reducible exact Below.refl _ _) | (with_reducible refine Below.alloc ?_ ?_ _) | (with_reducible refine Below.setCell ?_ ?_ _) | (with_reducible refine Below.drew ?_) | (with_reducible refine Below.call ?_ ?_ (by assumption)) | (with_reducible exact Nat.le_refl _) | omega | (simp; done) | (simp; omega)))⟩
  · have hR : opn k = false := decide_eq_false h
    have k2 : (k == 2) = false := by rw [beq_eq_false_iff_ne]; omega
    have k3 : (k == 3) = false := by rw [beq_eq_false_iff_ne]; omega
    have k4 : (k == 4) = false := by rw [beq_eq_false_iff_ne]; omega
    have k5 : (k == 5) = false := by rw [beq_eq_false_iff_ne]; omega
    rw [hR]
    clear hR h
    go_enter Tryz.func30, Tryz.ntmps30
    go_wp2
    go_returns
    exact ⟨rfl, (by repeat' (first | (with_reducible assumption) | (with_reducible exact Below.refl _ _) | (with_reducible refine Below.alloc ?_ ?_ _) | (with_reducible refine Below.setCell ?_ ?_ _) | (with_reducible refine Below.drew ?_) | (with_reducible refine Below.call ?_ ?_ (by assumption)) | (with_reducible exact Nat.le_refl _) | omega | (simp; done) | (simp; omega)))⟩
theorem rwr_other (k : Int) (x : ByteArray) (p r : Int) (w : World) (h1 : k ≠ 1) (h6 : k ≠ 6) (h7 : k ≠ 7) : Calls Tryz.prog 25 #[.agg #[.int .i64 k, .string x, .int .i64 p], .int .i64 r] w fun e w' => e = .returned (.string x) ∧ Below w.heap.size w w' := by
  have k1 : (k == 1) = false := by rw [beq_eq_false_iff_ne]; exact h1
  have k6 : (k == 6) = false := by rw [beq_eq_false_iff_ne]; exact h6
  have k7 : (k == 7) = false := by rw [beq_eq_false_iff_ne]; exact h7
  clear h1 h6 h7
  go_enter Tryz.func25, Tryz.ntmps25
  go_wp2
  go_returns
  exact ⟨rfl, (by repeat' (first | (with_reducible assumption) | (with_reducible exact Below.refl _ _) | (with_reducible refine Below.alloc ?_ ?_ _) | (with_reducible refine Below.setCell ?_ ?_ _) | (with_reducible refine Below.drew ?_) | (with_reducible refine Below.call ?_ ?_ (by assumption)) | (with_reducible exact Nat.le_refl _) | omega | (simp; done) | (simp; omega)))⟩
theorem rwr_format (x : ByteArray) (p r : Int) (w : World) (hx : x.size ≤ 100000) : Calls Tryz.prog 25 #[.agg #[.int .i64 7, .string x, .int .i64 p], .int .i64 r] w fun e w' => e = .returned (.string (⟨#[36]⟩ ++ x ++ ⟨#[36]⟩)) ∧ Below w.heap.size w w' := by
  go_enter Tryz.func25, Tryz.ntmps25
  go_wp2
  go_returns
  exact ⟨rfl, (by repeat' (first | (with_reducible assumption) | (with_reducible exact Below.refl _ _) | (with_reducible refine Below.alloc ?_ ?_ _) | (with_reducible refine Below.setCell ?_ ?_ _) | (with_reducible refine Below.drew ?_) | (with_reducible refine Below.call ?_ ?_ (by assumption)) | (with_reducible exact Nat.le_refl _) | omega | (simp; done) | (simp; omega)))⟩
theorem rwr_bold0 (x : ByteArray) (p : Int) (w : World) : Calls Tryz.prog 25 #[.agg #[.int .i64 1, .string x, .int .i64 p], .int .i64 0] w fun e w' => e = .returned (.string x) ∧ Below w.heap.size w w' := by
  go_enter Tryz.func25, Tryz.ntmps25
  go_wp2
  go_returns
  exact ⟨rfl, (by repeat' (first | (with_reducible assumption) | (with_reducible exact Below.refl _ _) | (with_reducible refine Below.alloc ?_ ?_ _) | (with_reducible refine Below.setCell ?_ ?_ _) | (with_reducible refine Below.drew ?_) | (with_reducible refine Below.call ?_ ?_ (by assumption)) | (with_reducible exact Nat.le_refl _) | omega | (simp; done) | (simp; omega)))⟩
set_option maxRecDepth 100000 in
set_option maxHeartbeats 4000000 in
theorem rwr_bold1 (x : ByteArray) (p : Int) (w : World) (hx : x.size ≤ 100000) : Calls Tryz.prog 25 #[.agg #[.int .i64 1, .string x, .int .i64 p], .int .i64 1] w fun e w' => e = .returned (.string (⟨#[46]⟩ ++ ⟨(Lib.toLowerA x.data.toList).toArray⟩)) ∧ Below w.heap.size w w' := by
  go_enter Tryz.func25, Tryz.ntmps25
  go_wp2
  go_loopw [5, 6] (fun v5 v6 wr => ∃ k : Nat, k ≤ x.size ∧ v5 = .string ⟨(Lib.toLowerA (List.take k x.data.toList)).toArray⟩ ∧ v6 = .int .i64 k ∧ Below w.heap.size w wr ∧ wr.cell? ⟨w.heap.size, 1, none⟩ = some (.string x)) (fun _ v6 _ => x.size - (intOf v6).toNat)
  case atStart => exact ⟨0, Nat.zero_le _, rfl, rfl, (Below.refl _ w).alloc (Nat.le_refl _) _, Own.cell (Own.new w 31 [.int .i64 1, .string x, .int .i64 p]) 1⟩
  case round =>
    obtain ⟨k, hk, rfl, rfl, hb, hcx⟩ := hrel
    have hwz := hb.size
    have hlt := cell_lt hcx
    have HB := Lib.hid hb
    have HCX := Lib.hid hcx
    have hzl : (Lib.toLowerA (List.take k x.data.toList)).length ≤ k := by unfold Lib.toLowerA; rw [List.length_map, List.length_take]; omega
    clear hb
    by_cases hkx : k < x.size
    · have hp := pk_bd x k
      have hpi := (pk_in hkx).symm
      obtain ⟨y, hy⟩ : ∃ y, (⟨(Lib.toLowerA (List.take k x.data.toList)).toArray⟩ : ByteArray) = y := ⟨_, rfl⟩
      have hys : y.size ≤ 200000 := by rw [← hy]; show (Lib.toLowerA (List.take k x.data.toList)).toArray.size ≤ _; rw [List.size_toArray]; omega
      have HN := Lib.hid (show (⟨(Lib.toLowerA (List.take (k + 1) x.data.toList)).toArray⟩ : ByteArray) = y ++ ⟨#[cu (loA (pk x k))]⟩ by rw [← hy, app_one, lw_succ hkx])
      rw [hy]
      obtain ⟨q, hpe⟩ : ∃ q, pk x k = q := ⟨_, rfl⟩
      rw [hpe] at hp hpi HN
      have hrb := lo_bd hp.1 hp.2
      have H9 := Lib.hid (fun w => rb_lo q w hp.1 hp.2)
      have HCV := fun W => conv_one (loA q) hrb.1 hrb.2 W
      obtain ⟨g, hg⟩ : ∃ g, loA q = g := ⟨_, rfl⟩
      rw [hg] at H9 HCV HN
      clear hy hpe hg hzl
      go_wp2_with (first | (go_at_call 69; (with_reducible refine (H9.out _).mono ?_); rintro e w' ⟨rfl, rfl⟩))
      go_roundw
      case rel => exact ⟨k + 1, hkx, by rw [HN.out], by go_num, HB.out.alloc hwz _, (World.cell_alloc_old wr _ hlt 1).trans HCX.out⟩
      case measure => simp [intOf]; omega
    · have hke : k = x.size := by omega
      subst hke
      have hfu : List.take x.size x.data.toList = x.data.toList := List.take_of_length_le (by rw [Array.length_toList]; exact Nat.le_refl _)
      rw [hfu] at hzl ⊢
      obtain ⟨y, hy⟩ : ∃ y, (⟨(Lib.toLowerA x.data.toList).toArray⟩ : ByteArray) = y := ⟨_, rfl⟩
      have hys : y.size ≤ 100000 := by rw [← hy]; show (Lib.toLowerA x.data.toList).toArray.size ≤ _; rw [List.size_toArray]; omega
      have HY := Lib.hid hy
      clear hy hzl hfu
      rw [HY.out]
      go_wp2
      go_returns
      exact ⟨by rw [HY.out]; rfl, HB.out⟩
set_option maxRecDepth 100000 in
set_option maxHeartbeats 4000000 in
theorem rwr_bold2 (x : ByteArray) (p : Int) (w : World) (hx : x.size ≤ 100000) : Calls Tryz.prog 25 #[.agg #[.int .i64 1, .string x, .int .i64 p], .int .i64 2] w fun e w' => e = .returned (.string (⟨#[39]⟩ ++ ⟨(Lib.toLowerA x.data.toList).toArray⟩ ++ ⟨#[39]⟩)) ∧ Below w.heap.size w w' := by
  go_enter Tryz.func25, Tryz.ntmps25
  go_wp2
  go_loopw [5, 6] (fun v5 v6 wr => ∃ k : Nat, k ≤ x.size ∧ v5 = .string ⟨(Lib.toLowerA (List.take k x.data.toList)).toArray⟩ ∧ v6 = .int .i64 k ∧ Below w.heap.size w wr ∧ wr.cell? ⟨w.heap.size, 1, none⟩ = some (.string x)) (fun _ v6 _ => x.size - (intOf v6).toNat)
  case atStart => exact ⟨0, Nat.zero_le _, rfl, rfl, (Below.refl _ w).alloc (Nat.le_refl _) _, Own.cell (Own.new w 31 [.int .i64 1, .string x, .int .i64 p]) 1⟩
  case round =>
    obtain ⟨k, hk, rfl, rfl, hb, hcx⟩ := hrel
    have hwz := hb.size
    have hlt := cell_lt hcx
    have HB := Lib.hid hb
    have HCX := Lib.hid hcx
    have hzl : (Lib.toLowerA (List.take k x.data.toList)).length ≤ k := by unfold Lib.toLowerA; rw [List.length_map, List.length_take]; omega
    clear hb
    by_cases hkx : k < x.size
    · have hp := pk_bd x k
      have hpi := (pk_in hkx).symm
      obtain ⟨y, hy⟩ : ∃ y, (⟨(Lib.toLowerA (List.take k x.data.toList)).toArray⟩ : ByteArray) = y := ⟨_, rfl⟩
      have hys : y.size ≤ 200000 := by rw [← hy]; show (Lib.toLowerA (List.take k x.data.toList)).toArray.size ≤ _; rw [List.size_toArray]; omega
      have HN := Lib.hid (show (⟨(Lib.toLowerA (List.take (k + 1) x.data.toList)).toArray⟩ : ByteArray) = y ++ ⟨#[cu (loA (pk x k))]⟩ by rw [← hy, app_one, lw_succ hkx])
      rw [hy]
      obtain ⟨q, hpe⟩ : ∃ q, pk x k = q := ⟨_, rfl⟩
      rw [hpe] at hp hpi HN
      have hrb := lo_bd hp.1 hp.2
      have H9 := Lib.hid (fun w => rb_lo q w hp.1 hp.2)
      have HCV := fun W => conv_one (loA q) hrb.1 hrb.2 W
      obtain ⟨g, hg⟩ : ∃ g, loA q = g := ⟨_, rfl⟩
      rw [hg] at H9 HCV HN
      clear hy hpe hg hzl
      go_wp2_with (first | (go_at_call 69; (with_reducible refine (H9.out _).mono ?_); rintro e w' ⟨rfl, rfl⟩))
      go_roundw
      case rel => exact ⟨k + 1, hkx, by rw [HN.out], by go_num, HB.out.alloc hwz _, (World.cell_alloc_old wr _ hlt 1).trans HCX.out⟩
      case measure => simp [intOf]; omega
    · have hke : k = x.size := by omega
      subst hke
      have hfu : List.take x.size x.data.toList = x.data.toList := List.take_of_length_le (by rw [Array.length_toList]; exact Nat.le_refl _)
      rw [hfu] at hzl ⊢
      obtain ⟨y, hy⟩ : ∃ y, (⟨(Lib.toLowerA x.data.toList).toArray⟩ : ByteArray) = y := ⟨_, rfl⟩
      have hys : y.size ≤ 100000 := by rw [← hy]; show (Lib.toLowerA x.data.toList).toArray.size ≤ _; rw [List.size_toArray]; omega
      have HY := Lib.hid hy
      clear hy hzl hfu
      rw [HY.out]
      go_wp2
      go_returns
      exact ⟨by rw [HY.out]; rfl, HB.out⟩
/-- Quotes doubled. -/
def dbl (l : List UInt8) : List UInt8 := l.flatMap fun c => if c = 34 then [34, 34] else [c]
theorem dbQ_dbl (x : ByteArray) : dbQ x = ⟨(dbl x.data.toList).toArray⟩ := by unfold dbQ dbl; rw [rb_map]
theorem dbl_len (l : List UInt8) : (dbl l).length ≤ 2 * l.length := by
  have h := rb_len l
  rw [rb_map] at h
  exact h
theorem dbl_succ {x : ByteArray} {k : Nat} (h : k < x.size) : dbl (List.take (k + 1) x.data.toList) = dbl (List.take k x.data.toList) ++ (if pk x k = 34 then [34, 34] else [cu (pk x k)]) := by
  unfold dbl
  rw [List.take_add_one, List.flatMap_append, List.getElem?_eq_getElem (by rw [Array.length_toList]; exact h)]
  simp only [Option.toList_some, List.flatMap_cons, List.flatMap_nil, List.append_nil]
  congr 1
  have e : x.data.toList[k]'(by rw [Array.length_toList]; exact h) = x[k] := rfl
  rw [e, ← cu_in h]
  by_cases hq : pk x k = 34
  · rw [hq]; rfl
  · have hb := pk_bd x k
    rw [if_neg hq, if_neg]
    intro h2
    apply hq
    have h3 := congrArg UInt8.toNat h2
    unfold cu at h3
    rw [UInt8.toNat_ofNat'] at h3
    have : (34 : UInt8).toNat = 34 := rfl
    omega
set_option maxRecDepth 100000 in
set_option maxHeartbeats 4000000 in
theorem rwr_string (x : ByteArray) (p r : Int) (w : World) (hx : x.size ≤ 100000) : Calls Tryz.prog 25 #[.agg #[.int .i64 6, .string x, .int .i64 p], .int .i64 r] w fun e w' => e = .returned (.string (⟨#[34]⟩ ++ dbQ x ++ ⟨#[34]⟩)) ∧ Below w.heap.size w w' := by
  rw [dbQ_dbl]
  go_enter Tryz.func25, Tryz.ntmps25
  go_wp2
  go_loopw [7, 8] (fun v7 v8 wr => ∃ k : Nat, k ≤ x.size ∧ v7 = .string ⟨(dbl (List.take k x.data.toList)).toArray⟩ ∧ v8 = .int .i64 k ∧ Below w.heap.size w wr ∧ wr.cell? ⟨w.heap.size, 1, none⟩ = some (.string x)) (fun _ v8 _ => x.size - (intOf v8).toNat)
  case atStart => exact ⟨0, Nat.zero_le _, rfl, rfl, (Below.refl _ w).alloc (Nat.le_refl _) _, Own.cell (Own.new w 31 [.int .i64 6, .string x, .int .i64 p]) 1⟩
  case round =>
    obtain ⟨k, hk, rfl, rfl, hb, hcx⟩ := hrel
    have hwz := hb.size
    have hlt := cell_lt hcx
    have HB := Lib.hid hb
    have HCX := Lib.hid hcx
    have hzl := dbl_len (List.take k x.data.toList)
    rw [List.length_take] at hzl
    clear hb
    by_cases hkx : k < x.size
    · have hp := pk_bd x k
      have hpi := (pk_in hkx).symm
      obtain ⟨y, hy⟩ : ∃ y, (⟨(dbl (List.take k x.data.toList)).toArray⟩ : ByteArray) = y := ⟨_, rfl⟩
      have hys : y.size ≤ 200000 := by rw [← hy]; show (dbl (List.take k x.data.toList)).toArray.size ≤ _; rw [List.size_toArray]; omega
      have HX := Lib.hid (show x.extract k (k + 1) = ⟨#[cu (pk x k)]⟩ by rw [ext_one hkx, ← cu_in hkx])
      have hds := dbl_succ hkx
      obtain ⟨q, hpe⟩ : ∃ q, pk x k = q := ⟨_, rfl⟩
      rw [hpe] at hp hpi hds HX
      by_cases hq : q = 34
      · have HN := Lib.hid (show (⟨(dbl (List.take (k + 1) x.data.toList)).toArray⟩ : ByteArray) = y ++ ⟨#[34]⟩ ++ ⟨#[cu q]⟩ by
          rw [hds, if_pos hq, ← hy, app_one, app_one, hq, List.append_assoc]
          rfl)
        subst hq
        rw [hy]
        clear hy hpe hzl hds
        go_wp2
        go_roundw
        case rel => exact ⟨k + 1, hkx, by rw [HN.out, HX.out], by go_num, HB.out, HCX.out⟩
        case measure => simp [intOf]; omega
      · have HN := Lib.hid (show (⟨(dbl (List.take (k + 1) x.data.toList)).toArray⟩ : ByteArray) = y ++ ⟨#[cu q]⟩ by rw [hds, if_neg hq, ← hy, app_one])
        have hq0 : (q == 34) = false := by rw [beq_eq_false_iff_ne]; exact hq
        rw [hy]
        clear hy hpe hzl hds
        go_wp2
        go_roundw
        case rel => exact ⟨k + 1, hkx, by rw [HN.out, HX.out], by go_num, HB.out, HCX.out⟩
        case measure => simp [intOf]; omega
    · have hke : k = x.size := by omega
      subst hke
      have hfu : List.take x.size x.data.toList = x.data.toList := List.take_of_length_le (by rw [Array.length_toList]; exact Nat.le_refl _)
      rw [hfu]
      obtain ⟨y, hy⟩ : ∃ y, (⟨(dbl x.data.toList).toArray⟩ : ByteArray) = y := ⟨_, rfl⟩
      have hys : y.size ≤ 200000 := by rw [← hy]; show (dbl x.data.toList).toArray.size ≤ _; rw [List.size_toArray]; have := dbl_len x.data.toList; have e : x.data.toList.length = x.size := Array.length_toList; omega
      have HY := Lib.hid hy
      clear hy hzl hfu
      rw [HY.out]
      go_wp2
      go_returns
      exact ⟨by rw [HY.out]; rfl, HB.out⟩
/-- The reference writes a symbol as the program does. -/
theorem rwritten_any (k : Int) (x : ByteArray) (p r : Int) (w : World) (hx : x.size ≤ 100000) (hr : 0 ≤ r ∧ r ≤ 2) : Calls Tryz.prog 25 #[.agg #[.int .i64 k, .string x, .int .i64 p], .int .i64 r] w fun e w' => e = .returned (.string (wrF k r x)) ∧ Below w.heap.size w w' := by
  by_cases h1 : k = 1
  · subst h1
    rcases (by omega : r = 0 ∨ r = 1 ∨ r = 2) with rfl | rfl | rfl
    · exact rwr_bold0 x p w
    · exact rwr_bold1 x p w hx
    · exact rwr_bold2 x p w hx
  by_cases h6 : k = 6
  · subst h6
    exact rwr_string x p r w hx
  by_cases h7 : k = 7
  · subst h7
    exact rwr_format x p r w hx
  have hR : wrF k r x = x := by unfold wrF; rw [if_neg h1, if_neg h6, if_neg h7]
  rw [hR]
  exact rwr_other k x p r w h1 h6 h7
end Go.Proofs.YtbnldpcbdeeflaaGreatDoor
