/- Whether a number with an r is one. Condition: the library's MaxLen holds a number. -/
import Derived.Test.YtbnldpcbdeeflaaGreatDoorLn
import Derived.Test.YtbnldpcbdeeflaaGreatDoorQu
import Derived.Test.YtbnldpcbdeeflaaGreatDoorShelf
namespace Go.Proofs.YtbnldpcbdeeflaaGreatDoor
open Go.ChangeShapes Go.WideShapes Go.ChangeAt Go.RowKit

theorem index_r (dl : List UInt8) : ∀ ql : List UInt8, (∀ c ∈ ql, c ≠ 114) → Lib.index (ql ++ 114 :: dl) [114] = (ql.length : Int)
  | [], _ => by simp [Lib.index, List.isPrefixOf]
  | c :: l, h => by
    have ih := index_r dl l (fun x hx => h x (List.mem_cons_of_mem _ hx))
    have hc : c ≠ 114 := h c (List.mem_cons_self ..)
    have hp : ([114] : List UInt8).isPrefixOf (c :: (l ++ 114 :: dl)) = false := by simp [List.isPrefixOf, Ne.symm hc]
    rw [List.cons_append, Lib.index, hp, ih, if_neg (by decide), if_neg (by rw [beq_iff_eq]; omega), List.length_cons]
    omega
theorem cut_r (ql dl : List UInt8) (h : ∀ c ∈ ql, c ≠ 114) : Lib.cut (ql ++ 114 :: dl) [114] = (ql, dl, true) := by
  unfold Lib.cut
  rw [index_r dl ql h, if_pos (by omega)]
  simp
/-- The digits that a radix has not. -/
def ovF (ql : List UInt8) : Option (List UInt8) := if ql = [50] then some [50, 51, 52, 53, 54, 55, 56, 57, 97, 98, 99, 100, 101, 102] else if ql = [52] then some [52, 53, 54, 55, 56, 57, 97, 98, 99, 100, 101, 102] else if ql = [56] then some [56, 57, 97, 98, 99, 100, 101, 102] else if ql = [49, 54] then some [] else none
/-- Whether a radix and digits are those of bits. -/
def abF (ql dl : List UInt8) : Bool := match ovF ql with
  | none => false
  | some o => !Lib.containsAny dl o
theorem below_dn (w : World) (n : Nat) : Below w.heap.size w (w.drewN n) := ⟨rfl, rfl, rfl, Nat.le_refl _, fun _ _ => rfl⟩
theorem asc_of {l : List UInt8} (h : ∀ c ∈ l, c.toNat < 128) : ∀ (j : Nat) b, (⟨l.toArray⟩ : ByteArray).data.toList[j]? = some b → b.toNat < 128 := fun j b hb => h b (List.mem_of_getElem? hb)
set_option maxHeartbeats 1000000 in
theorem ar_2 (s : ByteArray) (ql dl : List UInt8) (w : World) (hs : s.data.toList = ql ++ 114 :: dl) (hz : s.size ≤ 1000000) (hdz : dl.length ≤ 1000000) (hq : ∀ c ∈ ql, c ≠ 114) (hd : ∀ c ∈ dl, c.toNat < 128) (hM : Mx w) (hl : ql = [50]) :
    Calls Tryz.prog 83 #[.string s] w fun e w' => e = .returned (.bool (!Lib.containsAny dl [50, 51, 52, 53, 54, 55, 56, 57, 97, 98, 99, 100, 101, 102])) ∧ Below w.heap.size w w' := by
  obtain ⟨m, hm⟩ := hM
  have h1 := Tryz.strings_Cut s ⟨#[114]⟩ m w (by omega) hm
  rw [hs, show (⟨#[114]⟩ : ByteArray).data.toList = [114] from rfl, cut_r ql dl hq, hl] at h1
  have HA := Lib.hid (asc_of hd)
  have HZ : Hid ((⟨dl.toArray⟩ : ByteArray).size ≤ 1000000) := Lib.hid hdz
  have H2 := Lib.hid (fun W => Tryz.strings_ContainsAny_laid ⟨dl.toArray⟩ ⟨#[50, 51, 52, 53, 54, 55, 56, 57, 97, 98, 99, 100, 101, 102]⟩ W (by have := HZ.out; omega) (by decide) HA.out (asc_of (l := [50, 51, 52, 53, 54, 55, 56, 57, 97, 98, 99, 100, 101, 102]) (by decide)))
  have H1 := Lib.hid h1
  clear h1 hs hq hd hl hm
  go_enter Tryz.func83, Tryz.ntmps83
  go_wp2_with (first | (go_at_call 113; (with_reducible refine H1.out.mono ?_); rintro e w1 ⟨rfl, n, rfl⟩) | (go_at_call 114; (with_reducible refine (H2.out _).mono ?_); rintro e w2 ⟨rfl, k2⟩))
  go_returns
  exact ⟨rfl, Below.call (below_dn w n) (Nat.le_refl _) k2⟩
set_option maxHeartbeats 1000000 in
theorem ar_4 (s : ByteArray) (ql dl : List UInt8) (w : World) (hs : s.data.toList = ql ++ 114 :: dl) (hz : s.size ≤ 1000000) (hdz : dl.length ≤ 1000000) (hq : ∀ c ∈ ql, c ≠ 114) (hd : ∀ c ∈ dl, c.toNat < 128) (hM : Mx w) (hl : ql = [52]) :
    Calls Tryz.prog 83 #[.string s] w fun e w' => e = .returned (.bool (!Lib.containsAny dl [52, 53, 54, 55, 56, 57, 97, 98, 99, 100, 101, 102])) ∧ Below w.heap.size w w' := by
  obtain ⟨m, hm⟩ := hM
  have h1 := Tryz.strings_Cut s ⟨#[114]⟩ m w (by omega) hm
  rw [hs, show (⟨#[114]⟩ : ByteArray).data.toList = [114] from rfl, cut_r ql dl hq, hl] at h1
  have HA := Lib.hid (asc_of hd)
  have HZ : Hid ((⟨dl.toArray⟩ : ByteArray).size ≤ 1000000) := Lib.hid hdz
  have H2 := Lib.hid (fun W => Tryz.strings_ContainsAny_laid ⟨dl.toArray⟩ ⟨#[52, 53, 54, 55, 56, 57, 97, 98, 99, 100, 101, 102]⟩ W (by have := HZ.out; omega) (by decide) HA.out (asc_of (l := [52, 53, 54, 55, 56, 57, 97, 98, 99, 100, 101, 102]) (by decide)))
  have H1 := Lib.hid h1
  clear h1 hs hq hd hl hm
  go_enter Tryz.func83, Tryz.ntmps83
  go_wp2_with (first | (go_at_call 113; (with_reducible refine H1.out.mono ?_); rintro e w1 ⟨rfl, n, rfl⟩) | (go_at_call 114; (with_reducible refine (H2.out _).mono ?_); rintro e w2 ⟨rfl, k2⟩))
  go_returns
  exact ⟨rfl, Below.call (below_dn w n) (Nat.le_refl _) k2⟩
set_option maxHeartbeats 1000000 in
theorem ar_8 (s : ByteArray) (ql dl : List UInt8) (w : World) (hs : s.data.toList = ql ++ 114 :: dl) (hz : s.size ≤ 1000000) (hdz : dl.length ≤ 1000000) (hq : ∀ c ∈ ql, c ≠ 114) (hd : ∀ c ∈ dl, c.toNat < 128) (hM : Mx w) (hl : ql = [56]) :
    Calls Tryz.prog 83 #[.string s] w fun e w' => e = .returned (.bool (!Lib.containsAny dl [56, 57, 97, 98, 99, 100, 101, 102])) ∧ Below w.heap.size w w' := by
  obtain ⟨m, hm⟩ := hM
  have h1 := Tryz.strings_Cut s ⟨#[114]⟩ m w (by omega) hm
  rw [hs, show (⟨#[114]⟩ : ByteArray).data.toList = [114] from rfl, cut_r ql dl hq, hl] at h1
  have HA := Lib.hid (asc_of hd)
  have HZ : Hid ((⟨dl.toArray⟩ : ByteArray).size ≤ 1000000) := Lib.hid hdz
  have H2 := Lib.hid (fun W => Tryz.strings_ContainsAny_laid ⟨dl.toArray⟩ ⟨#[56, 57, 97, 98, 99, 100, 101, 102]⟩ W (by have := HZ.out; omega) (by decide) HA.out (asc_of (l := [56, 57, 97, 98, 99, 100, 101, 102]) (by decide)))
  have H1 := Lib.hid h1
  clear h1 hs hq hd hl hm
  go_enter Tryz.func83, Tryz.ntmps83
  go_wp2_with (first | (go_at_call 113; (with_reducible refine H1.out.mono ?_); rintro e w1 ⟨rfl, n, rfl⟩) | (go_at_call 114; (with_reducible refine (H2.out _).mono ?_); rintro e w2 ⟨rfl, k2⟩))
  go_returns
  exact ⟨rfl, Below.call (below_dn w n) (Nat.le_refl _) k2⟩
set_option maxHeartbeats 1000000 in
theorem ar_16 (s : ByteArray) (ql dl : List UInt8) (w : World) (hs : s.data.toList = ql ++ 114 :: dl) (hz : s.size ≤ 1000000) (hdz : dl.length ≤ 1000000) (hq : ∀ c ∈ ql, c ≠ 114) (hd : ∀ c ∈ dl, c.toNat < 128) (hM : Mx w) (hl : ql = [49, 54]) :
    Calls Tryz.prog 83 #[.string s] w fun e w' => e = .returned (.bool (!Lib.containsAny dl [])) ∧ Below w.heap.size w w' := by
  obtain ⟨m, hm⟩ := hM
  have h1 := Tryz.strings_Cut s ⟨#[114]⟩ m w (by omega) hm
  rw [hs, show (⟨#[114]⟩ : ByteArray).data.toList = [114] from rfl, cut_r ql dl hq, hl] at h1
  have HA := Lib.hid (asc_of hd)
  have HZ : Hid ((⟨dl.toArray⟩ : ByteArray).size ≤ 1000000) := Lib.hid hdz
  have H2 := Lib.hid (fun W => Tryz.strings_ContainsAny_laid ⟨dl.toArray⟩ ⟨#[]⟩ W (by have := HZ.out; omega) (by decide) HA.out (asc_of (l := []) (by decide)))
  have H1 := Lib.hid h1
  clear h1 hs hq hd hl hm
  go_enter Tryz.func83, Tryz.ntmps83
  go_wp2_with (first | (go_at_call 113; (with_reducible refine H1.out.mono ?_); rintro e w1 ⟨rfl, n, rfl⟩) | (go_at_call 114; (with_reducible refine (H2.out _).mono ?_); rintro e w2 ⟨rfl, k2⟩))
  go_returns
  exact ⟨rfl, Below.call (below_dn w n) (Nat.le_refl _) k2⟩
set_option maxHeartbeats 1000000 in
theorem ar_no (s : ByteArray) (ql dl : List UInt8) (w : World) (hs : s.data.toList = ql ++ 114 :: dl) (hz : s.size ≤ 1000000) (hq : ∀ c ∈ ql, c ≠ 114) (hM : Mx w) (h2 : ql ≠ [50]) (h4 : ql ≠ [52]) (h8 : ql ≠ [56]) (h16 : ql ≠ [49, 54]) :
    Calls Tryz.prog 83 #[.string s] w fun e w' => e = .returned (.bool false) ∧ Below w.heap.size w w' := by
  obtain ⟨m, hm⟩ := hM
  have h1 := Tryz.strings_Cut s ⟨#[114]⟩ m w (by omega) hm
  rw [hs, show (⟨#[114]⟩ : ByteArray).data.toList = [114] from rfl, cut_r ql dl hq] at h1
  have H1 := Lib.hid h1
  have b2 : (ql == [50]) = false := beq_eq_false_iff_ne.2 h2
  have b4 : (ql == [52]) = false := beq_eq_false_iff_ne.2 h4
  have b8 : (ql == [56]) = false := beq_eq_false_iff_ne.2 h8
  have b16 : (ql == [49, 54]) = false := beq_eq_false_iff_ne.2 h16
  clear h1 hs hq hm h2 h4 h8 h16
  go_enter Tryz.func83, Tryz.ntmps83
  go_wp2_with (go_at_call 113; (with_reducible refine H1.out.mono ?_); rintro e w1 ⟨rfl, n, rfl⟩)
  go_returns
  exact ⟨rfl, below_dn w n⟩
theorem areBits_any (s : ByteArray) (ql dl : List UInt8) (w : World) (hs : s.data.toList = ql ++ 114 :: dl) (hz : s.size ≤ 1000000) (hdz : dl.length ≤ 1000000) (hq : ∀ c ∈ ql, c ≠ 114) (hd : ∀ c ∈ dl, c.toNat < 128) (hM : Mx w) :
    Calls Tryz.prog 83 #[.string s] w fun e w' => e = .returned (.bool (abF ql dl)) ∧ Below w.heap.size w w' := by
  unfold abF ovF
  by_cases h2 : ql = [50]
  · rw [if_pos h2]; exact ar_2 s ql dl w hs hz hdz hq hd hM h2
  · rw [if_neg h2]
    by_cases h4 : ql = [52]
    · rw [if_pos h4]; exact ar_4 s ql dl w hs hz hdz hq hd hM h4
    · rw [if_neg h4]
      by_cases h8 : ql = [56]
      · rw [if_pos h8]; exact ar_8 s ql dl w hs hz hdz hq hd hM h8
      · rw [if_neg h8]
        by_cases h16 : ql = [49, 54]
        · rw [if_pos h16]; exact ar_16 s ql dl w hs hz hdz hq hd hM h16
        · rw [if_neg h16]; exact ar_no s ql dl w hs hz hq hM h2 h4 h8 h16
end Go.Proofs.YtbnldpcbdeeflaaGreatDoor
