/- Text of the law's example. Condition: the tables hold what they are laid with. -/
import Derived.Test.YtbnldpcbdeeflaaGreatDoorSy
import Derived.Test.YtbnldpcbdeeflaaGreatDoorEv
import Derived.Test.YtbnldpcbdeeflaaGreatDoorRg
import Derived.Lib.AppendStr
namespace Go.Proofs.YtbnldpcbdeeflaaGreatDoor
open Go.ChangeShapes Go.WideShapes Go.ChangeAt Go.RowKit

theorem bu_check2 (B b : Nat) (bs : List Value) (w : World) (h : Lib.IsBuilder 54 5 B b bs w) :
    Calls Tryz.prog 70 #[.pointer (some ⟨b, 0, none⟩)] w fun e w' => e = .returned (.tuple #[]) ∧ Lib.BuilderAt 54 5 B b (.pointer (some ⟨b, 0, none⟩)) bs w' ∧ Below B w w' ∧ (∀ k, k ≠ b → w'.heap[k]? = w.heap[k]?) ∧ w'.cell? ⟨b, 1, none⟩ = w.cell? ⟨b, 1, none⟩ := by
  rcases h with h | h
  · exact (bu_fresh b w h.cell0 h.shape h.frozen0).mono fun e w' ⟨he, hw⟩ => ⟨he, hw ▸ h.used _, hw ▸ (Below.refl B w).setCell (p := ⟨b, 0, none⟩) h.1 _, hw ▸ fun k hk => Below.heap_setCell w ⟨b, 0, none⟩ _ k hk, by
      subst hw
      obtain ⟨hB, v, hbk, _⟩ := h
      have h2 : (w.setCell ⟨b, 0, none⟩ (.pointer (some ⟨b, 0, none⟩))).heap[b]? = some (.cells (#[.pointer none, v].setIfInBounds 0 (.pointer (some ⟨b, 0, none⟩))) 54 (0, 0)) := (Own.put (l := [.pointer none, v]) hbk 0 _)
      rw [Lib.cell_of_heap hbk, Lib.cell_of_heap h2]
      rfl⟩
  · exact (bu_used b w h.cell0).mono fun e w' ⟨he, hw⟩ => ⟨he, hw ▸ h, hw ▸ Below.refl B w, hw ▸ fun k _ => rfl, hw ▸ rfl⟩
theorem bu_buf {B b : Nat} {bs : List Value} {w : World} (h : Lib.IsBuilder 54 5 B b bs w) : ∃ v0, w.cell? ⟨b, 1, none⟩ = some v0 ∧ b < w.heap.size ∧ ∀ k, v0.ownBlock = some k → k < w.heap.size := by
  rcases h with h | h
  all_goals
    have hl := h.lt
    obtain ⟨hB, v, hbk, hown, hne⟩ := h
    exact ⟨v, by rw [Lib.cell_of_heap hbk]; rfl, hl, fun k hk => (World.ownsRow.lt hown k hk).2⟩
set_option maxHeartbeats 2000000 in
set_option maxRecDepth 100000 in
/-- One more text. -/
theorem bu_wstr (B b : Nat) (l : List UInt8) (s : ByteArray) (w : World) (h : Lib.IsBuilder 54 5 B b (Lib.byteCells l) w) (hlen : l.length ≤ 1000000) (hs : s.size ≤ 1000000) (hs0 : 0 < s.size) (hBw : B ≤ w.heap.size) :
    Calls Tryz.prog 27 #[.pointer (some ⟨b, 0, none⟩), .string s] w fun e w' => e = .returned (.tuple #[.int .i64 (s.size : Int), .nilIface]) ∧ Lib.IsBuilder 54 5 B b (Lib.byteCells (l ++ s.data.toList)) w' ∧ Below B w w' ∧ (∀ v0, w.cell? ⟨b, 1, none⟩ = some v0 → Ot b v0 w w') := by
  obtain ⟨i0, hi, hz0, hz1, hz2⟩ := info_parts bu_byte
  have hbl : (Lib.byteCells l).length = l.length := Lib.byteCells_length l
  have hsc : Lib.byteCells l ++ Lib.strCells s = Lib.byteCells (l ++ s.data.toList) := by unfold Lib.byteCells Lib.strCells; rw [List.map_append]
  have HSC := Lib.hid hsc
  have HBL := Lib.hid hbl
  clear hsc hbl
  go_enter Tryz.func27, Tryz.ntmps27
  go_wp2_with (go_at_call 70; refine (bu_check2 B b (Lib.byteCells l) _ h).mono ?_)
  rintro e w1 ⟨rfl, h1, hb1, hk1, hq1⟩
  have HK1 := Lib.hid hk1
  have HQ1 := Lib.hid hq1
  clear hk1 hq1
  obtain ⟨hB, v, hbk, hown, hne⟩ := h1
  have z1 := hb1.size
  have c0 : w1.cell? ⟨b, 0, none⟩ = some (.pointer (some ⟨b, 0, none⟩)) := by rw [Lib.cell_of_heap hbk]; rfl
  have c1 : w1.cell? ⟨b, 1, none⟩ = some v := by rw [Lib.cell_of_heap hbk]; rfl
  have hlt : b < w1.heap.size := cell_lt c0
  have hln : (Lib.byteCells l).length + s.size ≤ 2000000 := by rw [HBL.out]; omega
  have hw1 : B ≤ w1.heap.size := by omega
  go_wp2_with (at_builtin; (refine Lib.wpList_append_own_string _ rfl _ _ 52 9 rfl B 5 i0 Tryz.underlying52 Tryz.underlying9 hi hz0 hz1 hz2 _ _ _ rfl hown s rfl ?_ ?_ hw1 ?_); (focus (unfold maxLen; omega)); (focus omega); intro v2 w2 hown2 hgrow _; (have hb2 : w2.heap[b]? = some (.cells #[.pointer (some ⟨b, 0, none⟩), v] 54 (0, 0)) := (hgrow.block b hlt (fun e => hne e.symm)).trans hbk); (have d0 : w2.cell? ⟨b, 0, none⟩ = some (.pointer (some ⟨b, 0, none⟩)) := by rw [Lib.cell_of_heap hb2]; rfl); (have d1 : w2.cell? ⟨b, 1, none⟩ = some v := by rw [Lib.cell_of_heap hb2]; rfl); (have f1 : w2.frozen? ⟨b, 1, none⟩ = false := Lib.frozen_of_heap hb2 1); (have hz2 := hgrow.size); (obtain ⟨g, cap, rfl⟩ : ∃ g cap, v2 = .slice (some ⟨g, 0, none⟩) ((Lib.byteCells l).length + s.size) cap := by (rcases hown2.2 with ⟨_, h0⟩ | ⟨g, cap, cur, hv, _⟩; (exact absurd h0 (by omega)); (exact ⟨g, cap, hv⟩))))
  go_ret2
  refine ⟨rfl, Or.inr ?_, ?_, ?_⟩
  · rw [← HSC.out]
    refine Lib.BuilderAt.put hB hb2 (bs' := Lib.byteCells l ++ Lib.strCells s) ?_ (by decide)
    rw [List.length_append, Lib.strCells_length]
    exact hown2
  · exact (hb1.grown hgrow hw1 (fun k hk => (hown.lt k hk).1)).setCell (p := ⟨b, 1, none⟩) hB _
  · intro v0 h0 k hk hkb hkv
    have hv : v0 = v := by
      have h2 := HQ1.out
      rw [h0, c1] at h2
      exact (Option.some.inj h2).symm
    subst hv
    exact (Below.heap_setCell w2 ⟨b, 1, none⟩ _ k hkb).trans ((hgrow.block k (by omega) (fun e => hkv e.symm)).trans (HK1.out k hkb))
theorem bu_len (B b : Nat) (l : List UInt8) (w : World) (h : Lib.IsBuilder 54 5 B b (Lib.byteCells l) w) (hlen : l.length ≤ 1000000) :
    Calls Tryz.prog 26 #[.pointer (some ⟨b, 0, none⟩)] w fun e w' => e = .returned (.int .i64 (l.length : Int)) ∧ w = w' := by
  have hbl : (Lib.byteCells l).length = l.length := Lib.byteCells_length l
  have hv : ∃ v, w.cell? ⟨b, 1, none⟩ = some v ∧ ((v = .slice none 0 0 ∧ l.length = 0) ∨ ∃ g cap, v = .slice (some ⟨g, 0, none⟩) l.length cap) := by
    rcases h with h | h
    all_goals
      obtain ⟨hB, v, hbk, hown, hne⟩ := h
      refine ⟨v, by rw [Lib.cell_of_heap hbk]; rfl, ?_⟩
      rw [hbl] at hown
      rcases hown.2 with ⟨h0, h1⟩ | ⟨g, cap, cur, hv, _⟩
      · exact Or.inl ⟨h0, h1⟩
      · exact Or.inr ⟨g, cap, hv⟩
  obtain ⟨v, c1, hv⟩ := hv
  clear h hbl
  rcases hv with ⟨rfl, h0⟩ | ⟨g, cap, rfl⟩
  · rw [h0]
    go_enter Tryz.func26, Tryz.ntmps26
    go_wp2
    go_returns
    exact ⟨rfl, rfl⟩
  · go_enter Tryz.func26, Tryz.ntmps26
    go_wp2
    go_returns
    exact ⟨rfl, rfl⟩
theorem bu_kept {B b : Nat} {bs : List Value} {w w' : World} (h : Lib.IsBuilder 54 5 B b bs w) (k : Below w.heap.size w w') : Lib.IsBuilder 54 5 B b bs w' := by
  rcases h with h | h
  · have hl := h.lt
    obtain ⟨hB, v, hbk, hown, hne⟩ := h
    exact Or.inl ⟨hB, v, (k.block b hl).trans hbk, World.ownsRow.kept hown (Gb.of (S := b) k) (Or.inr hne), hne⟩
  · have hl := h.lt
    obtain ⟨hB, v, hbk, hown, hne⟩ := h
    exact Or.inr ⟨hB, v, (k.block b hl).trans hbk, World.ownsRow.kept hown (Gb.of (S := b) k) (Or.inr hne), hne⟩
theorem cell_heap {w w' : World} {b : Nat} (h : w'.heap[b]? = w.heap[b]?) (o : Nat) : w'.cell? ⟨b, o, none⟩ = w.cell? ⟨b, o, none⟩ := by simp [World.cell?, h]
/-- A symbol as an argument. -/
def sV (k : Int) (x : ByteArray) (p : Int) : Value := .agg #[.int .i64 k, .string x, .int .i64 p]
theorem open_no (k : Int) (x : ByteArray) (p : Int) (w : World) (h : k < 2 ∨ 5 < k) : Calls Tryz.prog 71 #[.agg #[.int .i64 k, .string x, .int .i64 p]] w fun e w' => e = .returned (.bool false) ∧ Below w.heap.size w w' := by
  have k2 : (k == 2) = false := by rw [beq_eq_false_iff_ne]; omega
  have k3 : (k == 3) = false := by rw [beq_eq_false_iff_ne]; omega
  have k4 : (k == 4) = false := by rw [beq_eq_false_iff_ne]; omega
  have k5 : (k == 5) = false := by rw [beq_eq_false_iff_ne]; omega
  go_enter Tryz.func71, Tryz.ntmps71
  go_wp2
  go_returns
  exact ⟨rfl, (by repeat' (first | (with_reducible assumption) | (with_reducible exact Below.refl _ _) | (with_reducible refine Below.alloc ?_ ?_ _) | (with_reducible refine Below.setCell ?_ ?_ _) | (with_reducible refine Below.drew ?_) | (with_reducible refine Below.call ?_ ?_ (by assumption)) | (with_reducible exact Nat.le_refl _) | omega | (simp; done) | (simp; omega)))⟩
theorem space_one (k : Int) (x : ByteArray) (p : Int) (k2 : Int) (y : ByteArray) (p2 : Int) (w : World) (h : k < 2 ∨ 5 < k) : Calls Tryz.prog 28 #[.agg #[.int .i64 k, .string x, .int .i64 p], .agg #[.int .i64 k2, .string y, .int .i64 p2]] w fun e w' => e = .returned (.string ⟨#[32]⟩) ∧ Below w.heap.size w w' := by
  have HO := Lib.hid (fun W => open_no k x p W h)
  clear h
  go_enter Tryz.func28, Tryz.ntmps28
  go_wp2_with (first | (go_at_call 71; (with_reducible refine (HO.out _).mono ?_); (rintro e w1 ⟨rfl, hb1⟩); (have hz1 := hb1.size); (simp only [World.size_alloc] at hz1)))
  go_returns
  exact ⟨rfl, (by repeat' (first | (with_reducible assumption) | (with_reducible exact Below.refl _ _) | (with_reducible refine Below.alloc ?_ ?_ _) | (with_reducible refine Below.setCell ?_ ?_ _) | (with_reducible refine Below.drew ?_) | (with_reducible refine Below.call ?_ ?_ (by assumption)) | (with_reducible exact Nat.le_refl _) | omega | (simp; done) | (simp; omega)))⟩
theorem bold_0 (x : ByteArray) (w : World) : Calls Tryz.prog 67 #[.string x, .int .i64 0] w fun e w' => e = .returned (.string x) ∧ w = w' := by
  go_enter Tryz.func67, Tryz.ntmps67
  go_wp2
  go_returns
  exact ⟨rfl, rfl⟩
theorem bold_2 (x : ByteArray) (w : World) (hx : x.size ≤ 100000) (ha : ∀ c ∈ x.data.toList, c.toNat < 128) : Calls Tryz.prog 67 #[.string x, .int .i64 2] w fun e w' => e = .returned (.string (⟨#[39]⟩ ++ ⟨(Lib.toLowerA x.data.toList).toArray⟩ ++ ⟨#[39]⟩)) ∧ Below w.heap.size w w' := by
  have HT := Lib.hid (fun W => Tryz.strings_ToLower_ascii x W (by omega) (fun j b hb => ha b (List.mem_of_getElem? hb)))
  have hlz : (ByteArray.mk (Lib.toLowerA x.data.toList).toArray).size ≤ 100000 := by
    show (Lib.toLowerA x.data.toList).toArray.size ≤ _
    rw [List.size_toArray]
    unfold Lib.toLowerA
    rw [List.length_map, Array.length_toList]
    exact hx
  obtain ⟨y, hy⟩ : ∃ y, (ByteArray.mk (Lib.toLowerA x.data.toList).toArray) = y := ⟨_, rfl⟩
  rw [hy] at HT hlz
  rw [hy]
  clear hy ha
  go_enter Tryz.func67, Tryz.ntmps67
  go_wp2_with (first | (go_at_call 103; (with_reducible refine (HT.out _).mono ?_); rintro e w1 ⟨rfl, hb1⟩))
  go_returns
  exact ⟨rfl, (by repeat' (first | (with_reducible assumption) | (with_reducible exact Below.refl _ _) | (with_reducible refine Below.alloc ?_ ?_ _) | (with_reducible refine Below.setCell ?_ ?_ _) | (with_reducible refine Below.drew ?_) | (with_reducible refine Below.call ?_ ?_ (by assumption)) | (with_reducible exact Nat.le_refl _) | omega | (simp; done) | (simp; omega)))⟩
theorem wr_other (k : Int) (x : ByteArray) (p r : Int) (w : World) (h1 : k ≠ 1) (h6 : k ≠ 6) (h7 : k ≠ 7) : Calls Tryz.prog 24 #[.agg #[.int .i64 k, .string x, .int .i64 p], .int .i64 r] w fun e w' => e = .returned (.string x) ∧ Below w.heap.size w w' := by
  have k1 : (k == 1) = false := by rw [beq_eq_false_iff_ne]; exact h1
  have k6 : (k == 6) = false := by rw [beq_eq_false_iff_ne]; exact h6
  have k7 : (k == 7) = false := by rw [beq_eq_false_iff_ne]; exact h7
  clear h1 h6 h7
  go_enter Tryz.func24, Tryz.ntmps24
  go_wp2
  go_returns
  exact ⟨rfl, (by repeat' (first | (with_reducible assumption) | (with_reducible exact Below.refl _ _) | (with_reducible refine Below.alloc ?_ ?_ _) | (with_reducible refine Below.setCell ?_ ?_ _) | (with_reducible refine Below.drew ?_) | (with_reducible refine Below.call ?_ ?_ (by assumption)) | (with_reducible exact Nat.le_refl _) | omega | (simp; done) | (simp; omega)))⟩
theorem wr_bold0 (x : ByteArray) (p : Int) (w : World) : Calls Tryz.prog 24 #[.agg #[.int .i64 1, .string x, .int .i64 p], .int .i64 0] w fun e w' => e = .returned (.string x) ∧ Below w.heap.size w w' := by
  have HB := Lib.hid (fun W => bold_0 x W)
  go_enter Tryz.func24, Tryz.ntmps24
  go_wp2_with (first | (go_at_call 67; (with_reducible refine (HB.out _).mono ?_); rintro e w' ⟨rfl, rfl⟩))
  go_returns
  exact ⟨rfl, (by repeat' (first | (with_reducible assumption) | (with_reducible exact Below.refl _ _) | (with_reducible refine Below.alloc ?_ ?_ _) | (with_reducible refine Below.setCell ?_ ?_ _) | (with_reducible refine Below.drew ?_) | (with_reducible refine Below.call ?_ ?_ (by assumption)) | (with_reducible exact Nat.le_refl _) | omega | (simp; done) | (simp; omega)))⟩
theorem wr_bold2 (x : ByteArray) (p : Int) (w : World) (hx : x.size ≤ 100000) (ha : ∀ c ∈ x.data.toList, c.toNat < 128) : Calls Tryz.prog 24 #[.agg #[.int .i64 1, .string x, .int .i64 p], .int .i64 2] w fun e w' => e = .returned (.string (⟨#[39]⟩ ++ ⟨(Lib.toLowerA x.data.toList).toArray⟩ ++ ⟨#[39]⟩)) ∧ Below w.heap.size w w' := by
  have HB := Lib.hid (fun W => bold_2 x W hx ha)
  clear ha hx
  go_enter Tryz.func24, Tryz.ntmps24
  go_wp2_with (first | (go_at_call 67; (with_reducible refine (HB.out _).mono ?_); (rintro e w1 ⟨rfl, hb1⟩); (have hz1 := hb1.size); (simp only [World.size_alloc] at hz1)))
  go_returns
  exact ⟨rfl, (by repeat' (first | (with_reducible assumption) | (with_reducible exact Below.refl _ _) | (with_reducible refine Below.alloc ?_ ?_ _) | (with_reducible refine Below.setCell ?_ ?_ _) | (with_reducible refine Below.drew ?_) | (with_reducible refine Below.call ?_ ?_ (by assumption)) | (with_reducible exact Nat.le_refl _) | omega | (simp; done) | (simp; omega)))⟩
theorem Sl.form {w : World} {B : Nat} {v : Value} {s : Sy} {l : List Sy} (h : Sl w B v (s :: l)) : ∃ g cap, v = .slice (some ⟨g, 0, none⟩) (l.length + 1) cap ∧ B ≤ g ∧ g < w.heap.size ∧ (l.length + 1 ≤ cap) ∧ ∀ j u, (sy (s :: l))[j]? = some u → w.cell? ⟨g, j, none⟩ = some u := by
  have hc := fun g hg => World.ownsRow.cells h (g := g) hg
  have hlt := World.ownsRow.lt h
  rcases h.2 with ⟨_, h0⟩ | ⟨g, cap, cur, hv, hB, _, hn, _⟩
  · simp at h0
  · refine ⟨g, cap, hv, hB, (hlt g (by rw [hv]; rfl)).2, hn, ?_⟩
    intro j u hj
    have := hc g (by rw [hv]; rfl) j u hj
    by_cases h0 : j = 0
    · subst h0
      simpa [Addr.add] using this
    · simpa [Addr.add, h0] using this
set_option maxRecDepth 100000 in
set_option maxHeartbeats 4000000 in
theorem check_other (k : Int) (x : ByteArray) (p q : Int) (rest : List Sy) (w : World) (h0 : 0 ≤ k ∧ k ≤ 8) (h1 : k ≠ 1) (h6 : k ≠ 6) (h7 : k ≠ 7) (hrl : rest.length ≤ 100) (hs : syF 0 x = (0, 0, (k, x, q) :: rest)) (hM : Mx w) (hG : Sg w) (hgb : 0 < w.heap.size) (hgm : 1 < w.heap.size) :
    Calls Tryz.prog 14 #[.agg #[.int .i64 k, .string x, .int .i64 p]] w fun e w' => e = .returned (.int .i64 0) ∧ Below w.heap.size w w' := by
  have HW := Lib.hid (fun W => wr_other k x p 0 W h1 h6 h7)
  have HSY : Hid (∀ W, Below w.heap.size w W → Calls Tryz.prog 10 #[.string x, .int .i64 0] W (SyP W (0, 0, (k, x, q) :: rest))) := Lib.hid (fun W hb => by rw [← hs]; exact symbols_any x 0 W (hM.call hb) (fun i hi => (hb.cell (p := ⟨_, i, none⟩) hgb).trans (hG i hi)) (Nat.lt_of_lt_of_le hgb hb.size))
  have hl0 : ((rest.length : Int) + 1 == 0) = false := by rw [beq_eq_false_iff_ne]; omega
  have q0 : decide (k < 0) = false := decide_eq_false (by omega)
  have q1 : decide (k > 8) = false := decide_eq_false (by omega)
  clear hs hM hG h0 h1 h6 h7
  go_enter Tryz.func14, Tryz.ntmps14
  go_upto_region 4 with (first | (go_at_call 24; (with_reducible refine (HW.out _).mono ?_); (rintro e w1 ⟨rfl, hb1⟩); (have hz1 := hb1.size); (simp only [World.size_alloc] at hz1); (have HB1 : Hid (Below w.heap.size w w1) := Lib.hid (((Below.refl w.heap.size w).alloc (Nat.le_refl _) _).trans (hb1.mono (by simp)))); (have hbc : w1.cell? ⟨w.heap.size, 0, none⟩ = some (.int .i64 k) ∧ w1.cell? ⟨w.heap.size, 1, none⟩ = some (.string x) := ⟨(hb1.cell (p := ⟨w.heap.size, 0, none⟩) (by simp)).trans (Own.cell (Own.new w 31 [.int .i64 k, .string x, .int .i64 p]) 0), (hb1.cell (p := ⟨w.heap.size, 1, none⟩) (by simp)).trans (Own.cell (Own.new w 31 [.int .i64 k, .string x, .int .i64 p]) 1)⟩); (have HBC := Lib.hid hbc); clear hbc hb1) | (go_at_call 10; (with_reducible refine (HSY.out _ HB1.out).mono ?_); (rintro e w2 ⟨v, rfl, hv, hb2⟩); (obtain ⟨g, cap, rfl, hg1, hg2, hg3, hgc⟩ := Sl.form hv); (have hz2 := hb2.size); (have hw2 : w.heap.size < w2.heap.size := by omega); (have d0 : w2.cell? ⟨w.heap.size, 0, none⟩ = some (.int .i64 k) := (hb2.cell (p := ⟨w.heap.size, 0, none⟩) (by show w.heap.size < w1.heap.size; omega)).trans HBC.out.1); (have d1 : w2.cell? ⟨w.heap.size, 1, none⟩ = some (.string x) := (hb2.cell (p := ⟨w.heap.size, 1, none⟩) (by show w.heap.size < w1.heap.size; omega)).trans HBC.out.2); (have e0 : w2.cell? ⟨g, 0, none⟩ = some (.int .i64 k) := hgc 0 _ rfl); (have e1 : w2.cell? ⟨g, 1, none⟩ = some (.string x) := hgc 1 _ rfl); (have HB2 := Lib.hid (HB1.out.trans (hb2.mono HB1.out.size))); clear hgc hv hb2))
  go_region
  go_wp2_with fail
  all_goals
    go_returns
    exact ⟨rfl, (HB2.out.alloc (by have := HB2.out.size; omega) _).drew⟩
set_option maxRecDepth 100000 in
set_option maxHeartbeats 4000000 in
theorem check_bold (x : ByteArray) (p q : Int) (rest : List Sy) (w : World) (hrl : rest.length ≤ 100) (hs : syF 0 x = (0, 0, (1, x, q) :: rest)) (hM : Mx w) (hG : Sg w) (hgb : 0 < w.heap.size) (hgm : 1 < w.heap.size) :
    Calls Tryz.prog 14 #[.agg #[.int .i64 1, .string x, .int .i64 p]] w fun e w' => e = .returned (.int .i64 0) ∧ Below w.heap.size w w' := by
  have HW := Lib.hid (fun W => wr_bold0 x p W)
  have HSY : Hid (∀ W, Below w.heap.size w W → Calls Tryz.prog 10 #[.string x, .int .i64 0] W (SyP W (0, 0, (1, x, q) :: rest))) := Lib.hid (fun W hb => by rw [← hs]; exact symbols_any x 0 W (hM.call hb) (fun i hi => (hb.cell (p := ⟨_, i, none⟩) hgb).trans (hG i hi)) (Nat.lt_of_lt_of_le hgb hb.size))
  have hl0 : ((rest.length : Int) + 1 == 0) = false := by rw [beq_eq_false_iff_ne]; omega
  clear hs hM hG 
  go_enter Tryz.func14, Tryz.ntmps14
  go_upto_region 4 with (first | (go_at_call 24; (with_reducible refine (HW.out _).mono ?_); (rintro e w1 ⟨rfl, hb1⟩); (have hz1 := hb1.size); (simp only [World.size_alloc] at hz1); (have HB1 : Hid (Below w.heap.size w w1) := Lib.hid (((Below.refl w.heap.size w).alloc (Nat.le_refl _) _).trans (hb1.mono (by simp)))); (have hbc : w1.cell? ⟨w.heap.size, 0, none⟩ = some (.int .i64 1) ∧ w1.cell? ⟨w.heap.size, 1, none⟩ = some (.string x) := ⟨(hb1.cell (p := ⟨w.heap.size, 0, none⟩) (by simp)).trans (Own.cell (Own.new w 31 [.int .i64 1, .string x, .int .i64 p]) 0), (hb1.cell (p := ⟨w.heap.size, 1, none⟩) (by simp)).trans (Own.cell (Own.new w 31 [.int .i64 1, .string x, .int .i64 p]) 1)⟩); (have HBC := Lib.hid hbc); clear hbc hb1) | (go_at_call 10; (with_reducible refine (HSY.out _ HB1.out).mono ?_); (rintro e w2 ⟨v, rfl, hv, hb2⟩); (obtain ⟨g, cap, rfl, hg1, hg2, hg3, hgc⟩ := Sl.form hv); (have hz2 := hb2.size); (have hw2 : w.heap.size < w2.heap.size := by omega); (have d0 : w2.cell? ⟨w.heap.size, 0, none⟩ = some (.int .i64 1) := (hb2.cell (p := ⟨w.heap.size, 0, none⟩) (by show w.heap.size < w1.heap.size; omega)).trans HBC.out.1); (have d1 : w2.cell? ⟨w.heap.size, 1, none⟩ = some (.string x) := (hb2.cell (p := ⟨w.heap.size, 1, none⟩) (by show w.heap.size < w1.heap.size; omega)).trans HBC.out.2); (have e0 : w2.cell? ⟨g, 0, none⟩ = some (.int .i64 1) := hgc 0 _ rfl); (have e1 : w2.cell? ⟨g, 1, none⟩ = some (.string x) := hgc 1 _ rfl); (have HB2 := Lib.hid (HB1.out.trans (hb2.mono HB1.out.size))); clear hgc hv hb2))
  go_region
  go_wp2_with fail
  all_goals
    go_returns
    exact ⟨rfl, (HB2.out.alloc (by have := HB2.out.size; omega) _).drew⟩
/-- What is written before the ith symbol. -/
def txA (i : Nat) : List UInt8 := if i = 0 then [] else if i = 1 then [39, 105, 102, 39] else [39, 105, 102, 39, 32, 109, 121, 116, 97, 103]
set_option maxRecDepth 100000 in
set_option maxHeartbeats 8000000 in
theorem text_ex (B : Nat) (v : Value) (w : World) (hv : Sl w B v [(1, ⟨#[73, 70]⟩, 12), (2, ⟨#[109, 121, 116, 97, 103]⟩, 16), (0, ⟨#[]⟩, 22)]) (hM : Mx w) (hG : Sg w) (hgb : 0 < w.heap.size) (hgm : 1 < w.heap.size) :
    Calls Tryz.prog 16 #[v, .int .i64 2] w fun e w' => e = .returned (.tuple #[.string ⟨#[39, 105, 102, 39, 32, 109, 121, 116, 97, 103]⟩, .int .i64 0]) ∧ Below w.heap.size w w' := by
  obtain ⟨g, cap, rfl, hg1, hg2, hg3, hgc⟩ := Sl.form hv
  have HRG := Lib.hid (fun w => reg_any 2 w)
  have hMW : ∀ W, Below w.heap.size w W → Mx W ∧ Sg W ∧ 0 < W.heap.size ∧ 1 < W.heap.size := fun W hb => ⟨hM.call hb, fun i hi => (hb.cell (p := ⟨_, i, none⟩) hgb).trans (hG i hi), Nat.lt_of_lt_of_le hgb hb.size, Nat.lt_of_lt_of_le hgm hb.size⟩
  have HC0 := Lib.hid (fun (W : World) (hb : Below w.heap.size w W) => check_bold ⟨#[73, 70]⟩ 12 0 [(0, ⟨#[]⟩, 2)] W (by decide) ev_if (hMW W hb).1 (hMW W hb).2.1 (hMW W hb).2.2.1 (hMW W hb).2.2.2)
  have HC1 := Lib.hid (fun (W : World) (hb : Below w.heap.size w W) => check_other 2 ⟨#[109, 121, 116, 97, 103]⟩ 16 0 [(0, ⟨#[]⟩, 5)] W (by decide) (by decide) (by decide) (by decide) (by decide) ev_tag (hMW W hb).1 (hMW W hb).2.1 (hMW W hb).2.2.1 (hMW W hb).2.2.2)
  have HC2 := Lib.hid (fun (W : World) (hb : Below w.heap.size w W) => check_other 0 ⟨#[]⟩ 22 0 [] W (by decide) (by decide) (by decide) (by decide) (by decide) ev_0 (hMW W hb).1 (hMW W hb).2.1 (hMW W hb).2.2.1 (hMW W hb).2.2.2)
  have HW0 := Lib.hid (fun W => wr_bold2 ⟨#[73, 70]⟩ 12 W (by decide) (by decide))
  have HW1 := Lib.hid (fun W => wr_other 2 ⟨#[109, 121, 116, 97, 103]⟩ 16 2 W (by decide) (by decide) (by decide))
  have HSP := Lib.hid (fun W => space_one 1 ⟨#[73, 70]⟩ 12 2 ⟨#[109, 121, 116, 97, 103]⟩ 16 W (by decide))
  have HGC := Lib.hid hgc
  have hq : (⟨#[39]⟩ ++ ⟨(Lib.toLowerA (⟨#[73, 70]⟩ : ByteArray).data.toList).toArray⟩ ++ ⟨#[39]⟩ : ByteArray) = ⟨#[39, 105, 102, 39]⟩ := by decide +kernel
  rw [hq] at HW0
  have HBU : Hid (Lib.IsBuilder 54 5 w.heap.size w.heap.size (Lib.byteCells []) (w.alloc (.cells #[.pointer none, .slice none 0 0] 54))) := Lib.hid (Lib.fresh_isBuilder _ _ _)
  clear hv hM hG hgc hq hMW
  go_enter Tryz.func16, Tryz.ntmps16
  go_wp2_with (first | (go_at_call 20; (with_reducible refine (HRG.out _).mono ?_); rintro e w' ⟨rfl, rfl⟩))
  go_loopw [15] (fun v15 wr => ∃ i : Nat, i ≤ 2 ∧ v15 = .int .i64 i ∧ Lib.IsBuilder 54 5 w.heap.size w.heap.size (Lib.byteCells (txA i)) wr ∧ Below w.heap.size w wr) (fun v15 _ => 3 - (intOf v15).toNat)
  case atStart => exact ⟨0, by omega, rfl, HBU.out, (Below.refl _ w).alloc (Nat.le_refl _) _⟩
  case round =>
    obtain ⟨i, hi, rfl, hbu, hb⟩ := hrel
    have hz := hb.size
    have HB := Lib.hid hb
    have HCL : Hid (∀ j u, (sy [(1, ⟨#[73, 70]⟩, 12), (2, ⟨#[109, 121, 116, 97, 103]⟩, 16), (0, ⟨#[]⟩, 22)])[j]? = some u → wr.cell? ⟨g, j, none⟩ = some u) := Lib.hid (fun j u hj => (hb.cell (p := ⟨g, j, none⟩) hg2).trans (HGC.out j u hj))
    have HLN := Lib.hid (fun W (h : Below wr.heap.size wr W) (hh : Lib.IsBuilder 54 5 w.heap.size w.heap.size (Lib.byteCells (txA i)) W) => bu_len w.heap.size w.heap.size (txA i) W hh)
    rcases (by omega : i = 0 ∨ i = 1 ∨ i = 2) with rfl | rfl | rfl
    · have q0 : wr.cell? ⟨g, 0, none⟩ = some (.int .i64 1) := HCL.out 0 _ rfl
      have q1 : wr.cell? ⟨g, 1, none⟩ = some (.string ⟨#[73, 70]⟩ ) := HCL.out 1 _ rfl
      have q2 : wr.cell? ⟨g, 2, none⟩ = some (.int .i64 12) := HCL.out 2 _ rfl
      have HBU0 := Lib.hid hbu
      clear hbu hb
      go_wp2_with (first | (go_at_call 14; (with_reducible refine (HC0.out _ (HB.out.alloc (by omega) _)).mono ?_); (rintro e5 w5 ⟨rfl, hb5⟩); (have HB5 : Hid (Below w.heap.size w w5) := Lib.hid ((HB.out.alloc (by omega) _).trans (hb5.mono (by simp; omega)))); (have HBU5 : Hid (Lib.IsBuilder 54 5 w.heap.size w.heap.size (Lib.byteCells (txA 0)) w5) := Lib.hid (bu_kept HBU0.out (((Below.refl wr.heap.size wr).alloc (Nat.le_refl _) _).trans (hb5.mono (by simp))))); (have hz5 := HB5.out.size); (have hy5 : wr.heap.size < w5.heap.size := by (have := hb5.size; simp at this; omega)); (have s0 : w5.cell? ⟨wr.heap.size, 0, none⟩ = some (.int .i64 1) := (hb5.cell (p := ⟨wr.heap.size, 0, none⟩) (by simp)).trans (Own.cell (Own.new wr 31 [.int .i64 1, .string ⟨#[73, 70]⟩, .int .i64 12]) 0)); (have s1 : w5.cell? ⟨wr.heap.size, 1, none⟩ = some (.string ⟨#[73, 70]⟩) := (hb5.cell (p := ⟨wr.heap.size, 1, none⟩) (by simp)).trans (Own.cell (Own.new wr 31 [.int .i64 1, .string ⟨#[73, 70]⟩, .int .i64 12]) 1)); (have s2 : w5.cell? ⟨wr.heap.size, 2, none⟩ = some (.int .i64 12) := (hb5.cell (p := ⟨wr.heap.size, 2, none⟩) (by simp)).trans (Own.cell (Own.new wr 31 [.int .i64 1, .string ⟨#[73, 70]⟩, .int .i64 12]) 2)); (have HS5 := Lib.hid (And.intro s0 (And.intro s1 s2))); clear hb5) | (go_at_call 26; (with_reducible refine (bu_len w.heap.size w.heap.size (txA 0) w5 HBU5.out (by decide)).mono ?_); rintro e6 w6 ⟨rfl, rfl⟩) | (go_at_call 24; (with_reducible refine (HW0.out _).mono ?_); (rintro e7 w7 ⟨rfl, hb7⟩); (have hz7 := hb7.size); (have HB7 : Hid (Below w.heap.size w w7) := Lib.hid (HB5.out.trans (hb7.mono hz5))); (have HBU7 : Hid (Lib.IsBuilder 54 5 w.heap.size w.heap.size (Lib.byteCells (txA 0)) w7) := Lib.hid (bu_kept HBU5.out hb7))) | (go_at_call 27; (with_reducible refine (bu_wstr w.heap.size w.heap.size (txA 0) ⟨#[39, 105, 102, 39]⟩ w7 HBU7.out (by decide) (by decide) (by decide) HB7.out.size).mono ?_); (rintro e8 w8 ⟨rfl, hbu8, hb8, _⟩)))
      go_roundw
      case rel => exact ⟨1, by omega, rfl, hbu8, HB7.out.trans hb8⟩
      case measure => simp [intOf]
    · have q0 : wr.cell? ⟨g, 0, none⟩ = some (.int .i64 1) := HCL.out 0 _ rfl
      have q1 : wr.cell? ⟨g, 1, none⟩ = some (.string ⟨#[73, 70]⟩ ) := HCL.out 1 _ rfl
      have q2 : wr.cell? ⟨g, 2, none⟩ = some (.int .i64 12) := HCL.out 2 _ rfl
      have q3 : wr.cell? ⟨g, 3, none⟩ = some (.int .i64 2) := HCL.out 3 _ rfl
      have q4 : wr.cell? ⟨g, 4, none⟩ = some (.string ⟨#[109, 121, 116, 97, 103]⟩ ) := HCL.out 4 _ rfl
      have q5 : wr.cell? ⟨g, 5, none⟩ = some (.int .i64 16) := HCL.out 5 _ rfl
      have hgr : g < wr.heap.size := by omega
      obtain ⟨v0, hv0, hbl, hvl⟩ := bu_buf hbu
      have HV0 := Lib.hid hv0
      have HVL := Lib.hid hvl
      have HBU0 := Lib.hid hbu
      clear hbu hb hv0 hvl
      go_upto_region 13 with (first | (go_at_call 14; (with_reducible refine (HC1.out _ (HB.out.alloc (by omega) _)).mono ?_); (rintro e5 w5 ⟨rfl, hb5⟩); (have hba : Below wr.heap.size wr w5 := ((Below.refl wr.heap.size wr).alloc (Nat.le_refl _) _).trans (hb5.mono (by simp))); (have HB5 : Hid (Below w.heap.size w w5) := Lib.hid (HB.out.trans (hba.mono hz))); (have HBU5 : Hid (Lib.IsBuilder 54 5 w.heap.size w.heap.size (Lib.byteCells (txA 1)) w5) := Lib.hid (bu_kept HBU0.out hba)); (have hz5 := HB5.out.size); (have hy5 : wr.heap.size < w5.heap.size := by (have := hb5.size; simp at this; omega)); (have s0 : w5.cell? ⟨wr.heap.size, 0, none⟩ = some (.int .i64 2) := (hb5.cell (p := ⟨wr.heap.size, 0, none⟩) (by simp)).trans (Own.cell (Own.new wr 31 [.int .i64 2, .string ⟨#[109, 121, 116, 97, 103]⟩, .int .i64 16]) 0)); (have s1 : w5.cell? ⟨wr.heap.size, 1, none⟩ = some (.string ⟨#[109, 121, 116, 97, 103]⟩) := (hb5.cell (p := ⟨wr.heap.size, 1, none⟩) (by simp)).trans (Own.cell (Own.new wr 31 [.int .i64 2, .string ⟨#[109, 121, 116, 97, 103]⟩, .int .i64 16]) 1)); (have s2 : w5.cell? ⟨wr.heap.size, 2, none⟩ = some (.int .i64 16) := (hb5.cell (p := ⟨wr.heap.size, 2, none⟩) (by simp)).trans (Own.cell (Own.new wr 31 [.int .i64 2, .string ⟨#[109, 121, 116, 97, 103]⟩, .int .i64 16]) 2)); (have HS5 := Lib.hid (And.intro s0 (And.intro s1 s2))); (have t0 := (hba.cell (p := ⟨g, 0, none⟩) hgr).trans q0); (have t1 := (hba.cell (p := ⟨g, 1, none⟩) hgr).trans q1); (have t2 := (hba.cell (p := ⟨g, 2, none⟩) hgr).trans q2); (have HC5 := Lib.hid (hba.cell (p := ⟨w.heap.size, 1, none⟩) (by show w.heap.size < wr.heap.size; omega))); clear hb5 hba) | (go_at_call 26; (with_reducible refine (bu_len w.heap.size w.heap.size (txA 1) w5 HBU5.out (by decide)).mono ?_); rintro e6 w6 ⟨rfl, rfl⟩))
      go_region_with (first | (go_at_call 28; (with_reducible refine (HSP.out _).mono ?_); (rintro e7 w7 ⟨rfl, hb7⟩); (have hb7d : Below w5.heap.size w5 w7 := (Below.refl w5.heap.size w5).drew.trans hb7); (have hz7 := hb7d.size); (have HB7 : Hid (Below w.heap.size w w7) := Lib.hid (HB5.out.trans (hb7d.mono hz5))); (have HBU7 : Hid (Lib.IsBuilder 54 5 w.heap.size w.heap.size (Lib.byteCells (txA 1)) w7) := Lib.hid (bu_kept HBU5.out hb7d)); (have HK7 := Lib.hid hb7d); clear hb7 hb7d) | (go_at_call 27; (with_reducible refine (bu_wstr w.heap.size w.heap.size (txA 1) ⟨#[32]⟩ w7 HBU7.out (by decide) (by decide) (by decide) HB7.out.size).mono ?_); (rintro e8 w8 ⟨rfl, hbu8, hb8, ho8⟩); (have hwk : w8.heap[wr.heap.size]? = w5.heap[wr.heap.size]? := (ho8 v0 (((HK7.out.cell (p := ⟨w.heap.size, 1, none⟩) (by show w.heap.size < w5.heap.size; omega)).trans HC5.out).trans HV0.out) wr.heap.size (by omega) (by omega) (fun e => absurd (HVL.out _ e) (Nat.lt_irrefl _))).trans (HK7.out.block wr.heap.size hy5)); (have r0 : w8.cell? ⟨wr.heap.size, 0, none⟩ = some (.int .i64 2) := (cell_heap hwk 0).trans HS5.out.1); (have r1 : w8.cell? ⟨wr.heap.size, 1, none⟩ = some (.string ⟨#[109, 121, 116, 97, 103]⟩ ) := (cell_heap hwk 1).trans HS5.out.2.1); (have r2 : w8.cell? ⟨wr.heap.size, 2, none⟩ = some (.int .i64 16) := (cell_heap hwk 2).trans HS5.out.2.2); (have HB8 := Lib.hid (HB7.out.trans hb8)); (have HBU8 := Lib.hid hbu8); (have hz8 := HB8.out.size); clear hwk hb8 hbu8 ho8))
      all_goals
        go_wp2_with (first | (go_at_call 24; (with_reducible refine (HW1.out _).mono ?_); (rintro e9 w9 ⟨rfl, hb9⟩); (have HB9 : Hid (Below w.heap.size w w9) := Lib.hid (HB8.out.trans (hb9.mono hz8))); (have HBU9 : Hid (Lib.IsBuilder 54 5 w.heap.size w.heap.size (Lib.byteCells (txA 1 ++ [32])) w9) := Lib.hid (bu_kept HBU8.out hb9))) | (go_at_call 27; (with_reducible refine (bu_wstr w.heap.size w.heap.size (txA 1 ++ [32]) ⟨#[109, 121, 116, 97, 103]⟩ w9 HBU9.out (by decide) (by decide) (by decide) HB9.out.size).mono ?_); (rintro e10 w10 ⟨rfl, hbu10, hb10, _⟩)))
      all_goals
        go_roundw
        case rel => exact ⟨2, by omega, rfl, hbu10, HB9.out.trans hb10⟩
        case measure => simp [intOf]
    · have q6 : wr.cell? ⟨g, 6, none⟩ = some (.int .i64 0) := HCL.out 6 _ rfl
      have q7 : wr.cell? ⟨g, 7, none⟩ = some (.string ⟨#[]⟩) := HCL.out 7 _ rfl
      have q8 : wr.cell? ⟨g, 8, none⟩ = some (.int .i64 22) := HCL.out 8 _ rfl
      have hgr : g < wr.heap.size := by omega
      have HBU0 := Lib.hid hbu
      clear hbu hb
      go_wp2_with (first | (go_at_call 14; (with_reducible refine (HC2.out _ (HB.out.alloc (by omega) _)).mono ?_); (rintro e5 w5 ⟨rfl, hb5⟩); (have hba : Below wr.heap.size wr w5 := ((Below.refl wr.heap.size wr).alloc (Nat.le_refl _) _).trans (hb5.mono (by simp))); (have HB5 : Hid (Below w.heap.size w w5) := Lib.hid (HB.out.trans (hba.mono hz))); (have HBU5 : Hid (Lib.IsBuilder 54 5 w.heap.size w.heap.size (Lib.byteCells (txA 2)) w5) := Lib.hid (bu_kept HBU0.out hba)); (have hz5 := HB5.out.size); (have hy5 : wr.heap.size < w5.heap.size := by (have := hb5.size; simp at this; omega)); (have s0 : w5.cell? ⟨wr.heap.size, 0, none⟩ = some (.int .i64 0) := (hb5.cell (p := ⟨wr.heap.size, 0, none⟩) (by simp)).trans (Own.cell (Own.new wr 31 [.int .i64 0, .string ⟨#[]⟩, .int .i64 22]) 0)); (have s1 : w5.cell? ⟨wr.heap.size, 1, none⟩ = some (.string ⟨#[]⟩) := (hb5.cell (p := ⟨wr.heap.size, 1, none⟩) (by simp)).trans (Own.cell (Own.new wr 31 [.int .i64 0, .string ⟨#[]⟩, .int .i64 22]) 1)); (have s2 : w5.cell? ⟨wr.heap.size, 2, none⟩ = some (.int .i64 22) := (hb5.cell (p := ⟨wr.heap.size, 2, none⟩) (by simp)).trans (Own.cell (Own.new wr 31 [.int .i64 0, .string ⟨#[]⟩, .int .i64 22]) 2)); (have HS5 := Lib.hid (And.intro s0 (And.intro s1 s2))); clear hb5 hba) | (go_at_call 26; (with_reducible refine (bu_len w.heap.size w.heap.size (txA 2) w5 HBU5.out (by decide)).mono ?_); rintro e6 w6 ⟨rfl, rfl⟩) | (go_at_call 29; (with_reducible refine (Tryz.Builder_String_any w.heap.size w.heap.size (txA 2) w5 HBU5.out hz5).mono ?_); (rintro e9 w9 ⟨rfl, hb9⟩)))
      go_ret2
      exact ⟨rfl, HB5.out.trans hb9⟩
end Go.Proofs.YtbnldpcbdeeflaaGreatDoor
