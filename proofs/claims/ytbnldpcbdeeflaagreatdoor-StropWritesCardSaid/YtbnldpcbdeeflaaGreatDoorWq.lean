/- How symbols are written: open symbols, the space between two, bold words, what is written of a symbol. Conditions: a bold word in another regime is of ASCII; the library's MaxLen holds a number. -/
import Derived.Test.YtbnldpcbdeeflaaGreatDoorTx
namespace Go.Proofs.YtbnldpcbdeeflaaGreatDoor
open Go.ChangeShapes Go.WideShapes Go.ChangeAt Go.RowKit

/-- An open symbol may go on behind a blank. -/
def opn (k : Int) : Bool := decide (2 ≤ k ∧ k ≤ 5)
theorem open_any (k : Int) (x : ByteArray) (p : Int) (w : World) : Calls Tryz.prog 71 #[.agg #[.int .i64 k, .string x, .int .i64 p]] w fun e w' => e = .returned (.bool (opn k)) ∧ Below w.heap.size w w' := by
  by_cases h : 2 ≤ k ∧ k ≤ 5
  · have hR : opn k = true := decide_eq_true h
    rw [hR]
    rcases (by omega : k = 2 ∨ k = 3 ∨ k = 4 ∨ k = 5) with rfl | rfl | rfl | rfl
    all_goals
      go_enter Tryz.func71, Tryz.ntmps71
      go_wp2
      go_returns
      exact ⟨rfl, (by repeat' (first | (with_reducible assumption) | (with_reducible exact Below.refl _ _) | (with_reducible refine Below.alloc ?_ ?_ _) | (with_reducible refine Below.setCell ?_ ?_ _) | (with_reducible refine Below.drew ?_) | (with_reducible refine Below.call ?_ ?_ (by assumption)) | (with_reducible exact Nat.le_refl _) | omega | (simp; done) | (simp; omega)))⟩
  · have hR : opn k = false := decide_eq_false h
    rw [hR]
    exact open_no k x p w (by omega)
/-- What stands between two symbols. -/
def spF (k k2 : Int) : ByteArray := if opn k = true ∧ opn k2 = true then ⟨#[32, 35, 35, 32]⟩ else ⟨#[32]⟩
theorem space_any (k : Int) (x : ByteArray) (p : Int) (k2 : Int) (y : ByteArray) (p2 : Int) (w : World) : Calls Tryz.prog 28 #[.agg #[.int .i64 k, .string x, .int .i64 p], .agg #[.int .i64 k2, .string y, .int .i64 p2]] w fun e w' => e = .returned (.string (spF k k2)) ∧ Below w.heap.size w w' := by
  have HO := Lib.hid (fun W => open_any k x p W)
  have HO2 := Lib.hid (fun W => open_any k2 y p2 W)
  cases h1 : opn k
  · have hR : spF k k2 = ⟨#[32]⟩ := by unfold spF; rw [h1]; exact if_neg (fun h => by cases h.1)
    rw [hR]
    rw [h1] at HO
    clear hR h1
    go_enter Tryz.func28, Tryz.ntmps28
    go_wp2_with (first | (go_at_call 71; (with_reducible refine (HO.out _).mono ?_); (rintro e w1 ⟨rfl, hb1⟩); (have hz1 := hb1.size); (simp only [World.size_alloc] at hz1)))
    go_returns
    exact ⟨rfl, (by repeat' (first | (with_reducible assumption) | (with_reducible exact Below.refl _ _) | (with_reducible refine Below.alloc ?_ ?_ _) | (with_reducible refine Below.setCell ?_ ?_ _) | (with_reducible refine Below.drew ?_) | (with_reducible refine Below.call ?_ ?_ (by assumption)) | (with_reducible exact Nat.le_refl _) | omega | (simp; done) | (simp; omega)))⟩
  · rw [h1] at HO
    cases h2 : opn k2
    · have hR : spF k k2 = ⟨#[32]⟩ := by unfold spF; rw [h2]; exact if_neg (fun h => by cases h.2)
      rw [hR]
      rw [h2] at HO2
      clear hR h1 h2
      go_enter Tryz.func28, Tryz.ntmps28
      go_wp2_with (first | (go_at_call 71; (with_reducible refine (HO.out _).mono ?_); (rintro e w1 ⟨rfl, hb1⟩); (have hz1 := hb1.size); (simp only [World.size_alloc] at hz1); (have q0 : w1.cell? ⟨w.heap.size + 1, 0, none⟩ = some (.int .i64 k2) := (hb1.cell (p := ⟨w.heap.size + 1, 0, none⟩) (by simp)).trans (by (have hz : w.heap.size + 1 = (w.alloc (.cells #[.int .i64 k, .string x, .int .i64 p] 31)).heap.size := by simp); rw [hz]; exact (Own.cell (Own.new (w.alloc (.cells #[.int .i64 k, .string x, .int .i64 p] 31)) 31 [.int .i64 k2, .string y, .int .i64 p2]) 0))); (have q1 : w1.cell? ⟨w.heap.size + 1, 1, none⟩ = some (.string y) := (hb1.cell (p := ⟨w.heap.size + 1, 1, none⟩) (by simp)).trans (by (have hz : w.heap.size + 1 = (w.alloc (.cells #[.int .i64 k, .string x, .int .i64 p] 31)).heap.size := by simp); rw [hz]; exact (Own.cell (Own.new (w.alloc (.cells #[.int .i64 k, .string x, .int .i64 p] 31)) 31 [.int .i64 k2, .string y, .int .i64 p2]) 1))); (have q2 : w1.cell? ⟨w.heap.size + 1, 2, none⟩ = some (.int .i64 p2) := (hb1.cell (p := ⟨w.heap.size + 1, 2, none⟩) (by simp)).trans (by (have hz : w.heap.size + 1 = (w.alloc (.cells #[.int .i64 k, .string x, .int .i64 p] 31)).heap.size := by simp); rw [hz]; exact (Own.cell (Own.new (w.alloc (.cells #[.int .i64 k, .string x, .int .i64 p] 31)) 31 [.int .i64 k2, .string y, .int .i64 p2]) 2)))) | (go_at_call 71; (with_reducible refine (HO2.out _).mono ?_); (rintro e w2 ⟨rfl, hb2⟩); (have hz2 := hb2.size)))
      go_returns
      exact ⟨rfl, (by repeat' (first | (with_reducible assumption) | (with_reducible exact Below.refl _ _) | (with_reducible refine Below.alloc ?_ ?_ _) | (with_reducible refine Below.setCell ?_ ?_ _) | (with_reducible refine Below.drew ?_) | (with_reducible refine Below.call ?_ ?_ (by assumption)) | (with_reducible exact Nat.le_refl _) | omega | (simp; done) | (simp; omega)))⟩
    · have hR : spF k k2 = ⟨#[32, 35, 35, 32]⟩ := by unfold spF; rw [h1, h2]; exact if_pos ⟨rfl, rfl⟩
      rw [hR]
      rw [h2] at HO2
      clear hR h1 h2
      go_enter Tryz.func28, Tryz.ntmps28
      go_wp2_with (first | (go_at_call 71; (with_reducible refine (HO.out _).mono ?_); (rintro e w1 ⟨rfl, hb1⟩); (have hz1 := hb1.size); (simp only [World.size_alloc] at hz1); (have q0 : w1.cell? ⟨w.heap.size + 1, 0, none⟩ = some (.int .i64 k2) := (hb1.cell (p := ⟨w.heap.size + 1, 0, none⟩) (by simp)).trans (by (have hz : w.heap.size + 1 = (w.alloc (.cells #[.int .i64 k, .string x, .int .i64 p] 31)).heap.size := by simp); rw [hz]; exact (Own.cell (Own.new (w.alloc (.cells #[.int .i64 k, .string x, .int .i64 p] 31)) 31 [.int .i64 k2, .string y, .int .i64 p2]) 0))); (have q1 : w1.cell? ⟨w.heap.size + 1, 1, none⟩ = some (.string y) := (hb1.cell (p := ⟨w.heap.size + 1, 1, none⟩) (by simp)).trans (by (have hz : w.heap.size + 1 = (w.alloc (.cells #[.int .i64 k, .string x, .int .i64 p] 31)).heap.size := by simp); rw [hz]; exact (Own.cell (Own.new (w.alloc (.cells #[.int .i64 k, .string x, .int .i64 p] 31)) 31 [.int .i64 k2, .string y, .int .i64 p2]) 1))); (have q2 : w1.cell? ⟨w.heap.size + 1, 2, none⟩ = some (.int .i64 p2) := (hb1.cell (p := ⟨w.heap.size + 1, 2, none⟩) (by simp)).trans (by (have hz : w.heap.size + 1 = (w.alloc (.cells #[.int .i64 k, .string x, .int .i64 p] 31)).heap.size := by simp); rw [hz]; exact (Own.cell (Own.new (w.alloc (.cells #[.int .i64 k, .string x, .int .i64 p] 31)) 31 [.int .i64 k2, .string y, .int .i64 p2]) 2)))) | (go_at_call 71; (with_reducible refine (HO2.out _).mono ?_); (rintro e w2 ⟨rfl, hb2⟩); (have hz2 := hb2.size)))
      go_returns
      exact ⟨rfl, (by repeat' (first | (with_reducible assumption) | (with_reducible exact Below.refl _ _) | (with_reducible refine Below.alloc ?_ ?_ _) | (with_reducible refine Below.setCell ?_ ?_ _) | (with_reducible refine Below.drew ?_) | (with_reducible refine Below.call ?_ ?_ (by assumption)) | (with_reducible exact Nat.le_refl _) | omega | (simp; done) | (simp; omega)))⟩
theorem bold_1 (x : ByteArray) (w : World) (hx : x.size ≤ 100000) (ha : ∀ c ∈ x.data.toList, c.toNat < 128) : Calls Tryz.prog 67 #[.string x, .int .i64 1] w fun e w' => e = .returned (.string (⟨#[46]⟩ ++ ⟨(Lib.toLowerA x.data.toList).toArray⟩)) ∧ Below w.heap.size w w' := by
  have HT := Lib.hid (fun W => Tryz.strings_ToLower_ascii x W (by omega) (fun j b hb => ha b (List.mem_of_getElem? hb)))
  have hlz : (ByteArray.mk (Lib.toLowerA x.data.toList).toArray).size ≤ 100000 := by
    show (Lib.toLowerA x.data.toList).toArray.size ≤ _
    rw [List.size_toArray]
    unfold Lib.toLowerA
    rw [List.length_map, Array.length_toList]
    exact hx
  obtain ⟨y, hy⟩ : ∃ y, (ByteArray.mk (Lib.toLowerA x.data.toList).toArray) = y := ⟨_, rfl⟩
  rw [hy] at HT hlz
  rw [hy]
  clear hy ha
  go_enter Tryz.func67, Tryz.ntmps67
  go_wp2_with (first | (go_at_call 103; (with_reducible refine (HT.out _).mono ?_); rintro e w1 ⟨rfl, hb1⟩))
  go_returns
  exact ⟨rfl, (by repeat' (first | (with_reducible assumption) | (with_reducible exact Below.refl _ _) | (with_reducible refine Below.alloc ?_ ?_ _) | (with_reducible refine Below.setCell ?_ ?_ _) | (with_reducible refine Below.drew ?_) | (with_reducible refine Below.call ?_ ?_ (by assumption)) | (with_reducible exact Nat.le_refl _) | omega | (simp; done) | (simp; omega)))⟩
theorem bold_no (x : ByteArray) (r : Int) (w : World) (h1 : r ≠ 1) (h2 : r ≠ 2) : Calls Tryz.prog 67 #[.string x, .int .i64 r] w fun e w' => e = .returned (.string x) ∧ Below w.heap.size w w' := by
  have k1 : (r == 1) = false := by rw [beq_eq_false_iff_ne]; exact h1
  have k2 : (r == 2) = false := by rw [beq_eq_false_iff_ne]; exact h2
  clear h1 h2
  go_enter Tryz.func67, Tryz.ntmps67
  go_wp2
  go_returns
  exact ⟨rfl, (by repeat' (first | (with_reducible assumption) | (with_reducible exact Below.refl _ _) | (with_reducible refine Below.alloc ?_ ?_ _) | (with_reducible refine Below.setCell ?_ ?_ _) | (with_reducible refine Below.drew ?_) | (with_reducible refine Below.call ?_ ?_ (by assumption)) | (with_reducible exact Nat.le_refl _) | omega | (simp; done) | (simp; omega)))⟩
/-- A bold word in a regime. -/
def boF (r : Int) (x : ByteArray) : ByteArray := if r = 1 then ⟨#[46]⟩ ++ ⟨(Lib.toLowerA x.data.toList).toArray⟩ else if r = 2 then ⟨#[39]⟩ ++ ⟨(Lib.toLowerA x.data.toList).toArray⟩ ++ ⟨#[39]⟩ else x
theorem bold_gen (x : ByteArray) (r : Int) (w : World) (hx : x.size ≤ 100000) (ha : r = 1 ∨ r = 2 → ∀ c ∈ x.data.toList, c.toNat < 128) : Calls Tryz.prog 67 #[.string x, .int .i64 r] w fun e w' => e = .returned (.string (boF r x)) ∧ Below w.heap.size w w' := by
  by_cases h1 : r = 1
  · subst h1
    exact bold_1 x w hx (ha (Or.inl rfl))
  by_cases h2 : r = 2
  · subst h2
    exact bold_2 x w hx (ha (Or.inr rfl))
  have hR : boF r x = x := by unfold boF; rw [if_neg h1, if_neg h2]
  rw [hR]
  exact bold_no x r w h1 h2
theorem toLowerA_size (x : ByteArray) : (ByteArray.mk (Lib.toLowerA x.data.toList).toArray).size = x.size := by
  show (Lib.toLowerA x.data.toList).toArray.size = _
  rw [List.size_toArray]
  unfold Lib.toLowerA
  rw [List.length_map, Array.length_toList]
  rfl
theorem boF_size (r : Int) (x : ByteArray) : (boF r x).size ≤ x.size + 2 := by
  have h := toLowerA_size x
  unfold boF
  split
  · rw [ByteArray.size_append, h]; show 1 + _ ≤ _; omega
  split
  · rw [ByteArray.size_append, ByteArray.size_append, h]; show 1 + _ + 1 ≤ _; omega
  · omega
/-- A string's quotes, doubled. -/
def dbQ (x : ByteArray) : ByteArray := ⟨(Lib.replaceAll x.data.toList [34] [34, 34]).toArray⟩
/-- What is written of a symbol. -/
def wrF (k r : Int) (x : ByteArray) : ByteArray := if k = 1 then boF r x else if k = 6 then ⟨#[34]⟩ ++ dbQ x ++ ⟨#[34]⟩ else if k = 7 then ⟨#[36]⟩ ++ x ++ ⟨#[36]⟩ else x
theorem wr_string (x : ByteArray) (p r : Int) (w : World) (hx : x.size ≤ 100000) (hq : (dbQ x).size ≤ 300000) (hM : Mx w) : Calls Tryz.prog 24 #[.agg #[.int .i64 6, .string x, .int .i64 p], .int .i64 r] w fun e w' => e = .returned (.string (⟨#[34]⟩ ++ dbQ x ++ ⟨#[34]⟩)) ∧ Below w.heap.size w w' := by
  have HRA : Hid (∀ (W : World), Below w.heap.size w W → Calls Tryz.prog 68 #[.string x, .string ⟨#[34]⟩, .string ⟨#[34, 34]⟩] W fun e w' => e = .returned (.string (dbQ x)) ∧ Below W.heap.size W w') := Lib.hid (fun W hb => by
    obtain ⟨m, hm⟩ := hM.call hb
    exact Tryz.strings_ReplaceAll x ⟨#[34]⟩ ⟨#[34, 34]⟩ m W (by omega) hm (by decide) (by have h3 := Lib.countB_le ⟨#[34]⟩ (by decide) _ x (Nat.le_refl _); have h2 : (ByteArray.mk #[34, 34]).size = 2 := rfl; rw [h2]; omega))
  obtain ⟨y, hy⟩ : ∃ y, dbQ x = y := ⟨_, rfl⟩
  rw [hy] at HRA hq
  rw [hy]
  clear hM hy
  go_enter Tryz.func24, Tryz.ntmps24
  go_wp2_with (first | (go_at_call 68; (with_reducible refine (HRA.out _ (by first | exact Below.refl _ _ | exact (Below.refl _ _).alloc (Nat.le_refl _) _)).mono ?_); rintro e w1 ⟨rfl, hb1⟩))
  go_returns
  exact ⟨rfl, (by repeat' (first | (with_reducible assumption) | (with_reducible exact Below.refl _ _) | (with_reducible refine Below.alloc ?_ ?_ _) | (with_reducible refine Below.setCell ?_ ?_ _) | (with_reducible refine Below.drew ?_) | (with_reducible refine Below.call ?_ ?_ (by assumption)) | (with_reducible exact Nat.le_refl _) | omega | (simp; done) | (simp; omega)))⟩
theorem wr_format (x : ByteArray) (p r : Int) (w : World) (hx : x.size ≤ 100000) : Calls Tryz.prog 24 #[.agg #[.int .i64 7, .string x, .int .i64 p], .int .i64 r] w fun e w' => e = .returned (.string (⟨#[36]⟩ ++ x ++ ⟨#[36]⟩)) ∧ Below w.heap.size w w' := by
  go_enter Tryz.func24, Tryz.ntmps24
  go_wp2
  go_returns
  exact ⟨rfl, (by repeat' (first | (with_reducible assumption) | (with_reducible exact Below.refl _ _) | (with_reducible refine Below.alloc ?_ ?_ _) | (with_reducible refine Below.setCell ?_ ?_ _) | (with_reducible refine Below.drew ?_) | (with_reducible refine Below.call ?_ ?_ (by assumption)) | (with_reducible exact Nat.le_refl _) | omega | (simp; done) | (simp; omega)))⟩
theorem wr_bold (x : ByteArray) (p r : Int) (w : World) (hx : x.size ≤ 100000) (ha : r = 1 ∨ r = 2 → ∀ c ∈ x.data.toList, c.toNat < 128) : Calls Tryz.prog 24 #[.agg #[.int .i64 1, .string x, .int .i64 p], .int .i64 r] w fun e w' => e = .returned (.string (boF r x)) ∧ Below w.heap.size w w' := by
  have HB := Lib.hid (fun W => bold_gen x r W hx ha)
  clear ha hx
  go_enter Tryz.func24, Tryz.ntmps24
  go_wp2_with (first | (go_at_call 67; (with_reducible refine (HB.out _).mono ?_); (rintro e w1 ⟨rfl, hb1⟩); (have hz1 := hb1.size); (simp only [World.size_alloc] at hz1)))
  go_returns
  exact ⟨rfl, (by repeat' (first | (with_reducible assumption) | (with_reducible exact Below.refl _ _) | (with_reducible refine Below.alloc ?_ ?_ _) | (with_reducible refine Below.setCell ?_ ?_ _) | (with_reducible refine Below.drew ?_) | (with_reducible refine Below.call ?_ ?_ (by assumption)) | (with_reducible exact Nat.le_refl _) | omega | (simp; done) | (simp; omega)))⟩
theorem written_any (k : Int) (x : ByteArray) (p r : Int) (w : World) (hx : x.size ≤ 100000) (hq : (dbQ x).size ≤ 300000) (ha : k = 1 → r = 1 ∨ r = 2 → ∀ c ∈ x.data.toList, c.toNat < 128) (hM : Mx w) : Calls Tryz.prog 24 #[.agg #[.int .i64 k, .string x, .int .i64 p], .int .i64 r] w fun e w' => e = .returned (.string (wrF k r x)) ∧ Below w.heap.size w w' := by
  by_cases h1 : k = 1
  · subst h1
    exact wr_bold x p r w hx (ha rfl)
  by_cases h6 : k = 6
  · subst h6
    exact wr_string x p r w hx hq hM
  by_cases h7 : k = 7
  · subst h7
    exact wr_format x p r w hx
  have hR : wrF k r x = x := by unfold wrF; rw [if_neg h1, if_neg h6, if_neg h7]
  rw [hR]
  exact wr_other k x p r w h1 h6 h7
end Go.Proofs.YtbnldpcbdeeflaaGreatDoor
