/- Whether a bold word in a comment is none; the regime that a pragmat sets. Condition: the scanner's block is the call's own. -/
import Derived.Test.YtbnldpcbdeeflaaGreatDoorNm
import Derived.Shelf.Strings.SlTrimAscii
namespace Go.Proofs.YtbnldpcbdeeflaaGreatDoor
open Go.ChangeShapes Go.WideShapes Go.ChangeAt Go.RowKit

/-- Whether what looks like a bold word is none for what stands directly before it. -/
def jn (r : Int) (t : ByteArray) (i : Nat) : Bool := (r == 0) && bSd (pk t (i - 1))
theorem joined_any (t : ByteArray) (S i : Nat) (r : Int) (w : World) (c0 : w.cell? ⟨S, 0, none⟩ = some (.string t)) (c1 : w.cell? ⟨S, 1, none⟩ = some (.int .i64 r)) (hl : t.size ≤ 100000) (hi : 1 ≤ i) (hi2 : i ≤ t.size) :
    Calls Tryz.prog 117 #[.pointer (some ⟨S, 0, none⟩), .int .i64 (i : Int)] w fun e w' => e = .returned (.bool (jn r t i)) ∧ w = w' := by
  unfold jn
  have hp := pk_bd t (i - 1)
  have hpi := (pk_in (show i - 1 < t.size by omega)).symm
  obtain ⟨p, hpe⟩ : ∃ p, pk t (i - 1) = p := ⟨_, rfl⟩
  rw [hpe] at hp hpi ⊢
  have HB := Lib.hid (fun w => by_sd p w hp.1 hp.2)
  obtain ⟨j, hj⟩ : ∃ j, i = j + 1 := ⟨i - 1, by omega⟩
  subst hj
  simp only [Nat.add_sub_cancel] at hpi
  have hjt : j < t.size := by omega
  clear hpe
  cases hr : (r == 0)
  · go_enter Tryz.func117, Tryz.ntmps117
    go_wp2_with ((go_at_call 47; (with_reducible refine (HB.out _).mono ?_); rintro e w' ⟨rfl, rfl⟩))
    go_returns
    exact ⟨rfl, rfl⟩
  · rw [Bool.true_and]
    go_enter Tryz.func117, Tryz.ntmps117
    go_wp2_with ((go_at_call 47; (with_reducible refine (HB.out _).mono ?_); rintro e w' ⟨rfl, rfl⟩))
    go_returns
    exact ⟨rfl, rfl⟩
/-- The inner text of a pragmat in small letters, without the blanks around it; the regime that it leaves. -/
def pgT (x : ByteArray) : List UInt8 := Lib.toLowerA (Lib.trimS x.data.toList [9, 10, 32])
def pgR (r : Int) (x : ByteArray) : Int := if pgT x = [117, 112, 112, 101, 114] then 0 else if pgT x = [112, 111, 105, 110, 116] then 1 else if pgT x = [113, 117, 111, 116, 101] then 2 else r
theorem dw_mem (p : UInt8 → Bool) : ∀ (l : List UInt8) c, c ∈ l.dropWhile p → c ∈ l
  | [], _, h => h
  | x :: l, c, h => by
    rw [List.dropWhile_cons] at h
    split at h
    · exact List.mem_cons_of_mem _ (dw_mem p l c h)
    · exact h
theorem dw_len (p : UInt8 → Bool) : ∀ (l : List UInt8), (l.dropWhile p).length ≤ l.length
  | [] => Nat.le_refl _
  | x :: l => by
    rw [List.dropWhile_cons]
    split
    · exact Nat.le_trans (dw_len p l) (Nat.le_succ _)
    · exact Nat.le_refl _
theorem trim_asc {l cs : List UInt8} (h : ∀ c ∈ l, c.toNat < 128) : ∀ c ∈ Lib.trimS l cs, c.toNat < 128 := by
  intro c hc
  unfold Lib.trimS Lib.trimLeftS Lib.trimRightS at hc
  have h1 := dw_mem _ _ _ hc
  rw [List.mem_reverse] at h1
  have h2 := dw_mem _ _ _ h1
  rw [List.mem_reverse] at h2
  exact h c h2
theorem trim_len (l cs : List UInt8) : (Lib.trimS l cs).length ≤ l.length := by
  unfold Lib.trimS Lib.trimLeftS Lib.trimRightS
  have h1 := dw_len (cs.contains ·) (l.reverse.dropWhile (cs.contains ·)).reverse
  have h2 := dw_len (cs.contains ·) l.reverse
  rw [List.length_reverse] at h1 h2
  omega
set_option maxHeartbeats 1000000 in
theorem set_u (S : Nat) (t x : ByteArray) (r a : Int) (v : Value) (w : World) (hS : Sc w S t r a v) (hx : x.size ≤ 100000) (hc : ∀ c ∈ x.data.toList, c.toNat < 128) (e0 : pgT x = [117, 112, 112, 101, 114]) :
    Calls Tryz.prog 118 #[.pointer (some ⟨S, 0, none⟩), .string x] w fun e w' => e = .returned (.tuple #[]) ∧ Sc w' S t 0 a v ∧ Gb S w w' := by
  have h1 := Any.strings_Trim_laid Tryz.lays160 (by kernel_rfl) x ⟨#[9, 10, 32]⟩ w (by omega) (by decide) (asc_of (l := [9, 10, 32]) (by decide))
  rw [show (⟨#[9, 10, 32]⟩ : ByteArray).data.toList = [9, 10, 32] from rfl] at h1
  have hxl : x.data.toList.length = x.size := rfl
  have hl := trim_len x.data.toList [9, 10, 32]
  have ha := asc_of (trim_asc (cs := [9, 10, 32]) hc)
  have hsz : (ByteArray.mk (Lib.trimS x.data.toList [9, 10, 32]).toArray).size ≤ 100000 := by
    show (Lib.trimS x.data.toList [9, 10, 32]).toArray.size ≤ 100000
    rw [List.size_toArray]
    omega
  have H2 := Lib.hid (fun W => Tryz.strings_ToLower_ascii ⟨(Lib.trimS x.data.toList [9, 10, 32]).toArray⟩ W (by omega) ha)
  rw [show Lib.toLowerA (ByteArray.mk (Lib.trimS x.data.toList [9, 10, 32]).toArray).data.toList = pgT x from rfl] at H2
  obtain ⟨l, hl2⟩ : ∃ l, pgT x = l := ⟨_, rfl⟩
  obtain ⟨y, hy⟩ : ∃ y, (ByteArray.mk (Lib.trimS x.data.toList [9, 10, 32]).toArray) = y := ⟨_, rfl⟩
  rw [hl2, hy] at H2
  replace h1 : Calls Tryz.prog 130 #[.string x, .string ⟨#[9, 10, 32]⟩] w fun e w' => e = .returned (.string y) ∧ Below w.heap.size w w' := by rw [← hy]; exact h1
  have b0 : (l == [117, 112, 112, 101, 114]) = true := by rw [← hl2]; exact beq_iff_eq.2 e0
  have H1 := Lib.hid h1
  have HS := Lib.hid hS
  have hlt := hS.lt
  clear h1 hS ha hsz hl hxl hx hc hy hl2
  go_enter Tryz.func118, Tryz.ntmps118
  go_wp2_with (first | (go_at_call 130; (with_reducible refine H1.out.mono ?_); rintro e w1 ⟨rfl, hb1⟩) | (go_at_call 103; (with_reducible refine (H2.out _).mono ?_); rintro e w2 ⟨rfl, k2⟩; (have hb2 := Below.call hb1 hb1.size k2); (have hz2 := hb2.size); (have hS2 := Own.kept HS.out hb2); (have g1 : w2.cell? ⟨S, 1, none⟩ = some (.int .i64 r) := Own.cell hS2 1); (have gf := fun i => Own.frozen hS2 i); (have HS2 := Lib.hid hS2); clear hS2))
  go_returns
  refine ⟨rfl, Own.put HS2.out 1 (.int .i64 0), ?_⟩
  exact (Gb.of hb2).set (Or.inl rfl) _
set_option maxHeartbeats 1000000 in
theorem set_p (S : Nat) (t x : ByteArray) (r a : Int) (v : Value) (w : World) (hS : Sc w S t r a v) (hx : x.size ≤ 100000) (hc : ∀ c ∈ x.data.toList, c.toNat < 128) (e0 : pgT x ≠ [117, 112, 112, 101, 114]) (e1 : pgT x = [112, 111, 105, 110, 116]) :
    Calls Tryz.prog 118 #[.pointer (some ⟨S, 0, none⟩), .string x] w fun e w' => e = .returned (.tuple #[]) ∧ Sc w' S t 1 a v ∧ Gb S w w' := by
  have h1 := Any.strings_Trim_laid Tryz.lays160 (by kernel_rfl) x ⟨#[9, 10, 32]⟩ w (by omega) (by decide) (asc_of (l := [9, 10, 32]) (by decide))
  rw [show (⟨#[9, 10, 32]⟩ : ByteArray).data.toList = [9, 10, 32] from rfl] at h1
  have hxl : x.data.toList.length = x.size := rfl
  have hl := trim_len x.data.toList [9, 10, 32]
  have ha := asc_of (trim_asc (cs := [9, 10, 32]) hc)
  have hsz : (ByteArray.mk (Lib.trimS x.data.toList [9, 10, 32]).toArray).size ≤ 100000 := by
    show (Lib.trimS x.data.toList [9, 10, 32]).toArray.size ≤ 100000
    rw [List.size_toArray]
    omega
  have H2 := Lib.hid (fun W => Tryz.strings_ToLower_ascii ⟨(Lib.trimS x.data.toList [9, 10, 32]).toArray⟩ W (by omega) ha)
  rw [show Lib.toLowerA (ByteArray.mk (Lib.trimS x.data.toList [9, 10, 32]).toArray).data.toList = pgT x from rfl] at H2
  obtain ⟨l, hl2⟩ : ∃ l, pgT x = l := ⟨_, rfl⟩
  obtain ⟨y, hy⟩ : ∃ y, (ByteArray.mk (Lib.trimS x.data.toList [9, 10, 32]).toArray) = y := ⟨_, rfl⟩
  rw [hl2, hy] at H2
  replace h1 : Calls Tryz.prog 130 #[.string x, .string ⟨#[9, 10, 32]⟩] w fun e w' => e = .returned (.string y) ∧ Below w.heap.size w w' := by rw [← hy]; exact h1
  have b0 : (l == [117, 112, 112, 101, 114]) = false := by rw [← hl2]; exact beq_eq_false_iff_ne.2 e0
  have b1 : (l == [112, 111, 105, 110, 116]) = true := by rw [← hl2]; exact beq_iff_eq.2 e1
  have H1 := Lib.hid h1
  have HS := Lib.hid hS
  have hlt := hS.lt
  clear h1 hS ha hsz hl hxl hx hc hy hl2
  go_enter Tryz.func118, Tryz.ntmps118
  go_wp2_with (first | (go_at_call 130; (with_reducible refine H1.out.mono ?_); rintro e w1 ⟨rfl, hb1⟩) | (go_at_call 103; (with_reducible refine (H2.out _).mono ?_); rintro e w2 ⟨rfl, k2⟩; (have hb2 := Below.call hb1 hb1.size k2); (have hz2 := hb2.size); (have hS2 := Own.kept HS.out hb2); (have g1 : w2.cell? ⟨S, 1, none⟩ = some (.int .i64 r) := Own.cell hS2 1); (have gf := fun i => Own.frozen hS2 i); (have HS2 := Lib.hid hS2); clear hS2))
  go_returns
  refine ⟨rfl, Own.put HS2.out 1 (.int .i64 1), ?_⟩
  exact (Gb.of hb2).set (Or.inl rfl) _
set_option maxHeartbeats 1000000 in
theorem set_q (S : Nat) (t x : ByteArray) (r a : Int) (v : Value) (w : World) (hS : Sc w S t r a v) (hx : x.size ≤ 100000) (hc : ∀ c ∈ x.data.toList, c.toNat < 128) (e0 : pgT x ≠ [117, 112, 112, 101, 114]) (e1 : pgT x ≠ [112, 111, 105, 110, 116]) (e2 : pgT x = [113, 117, 111, 116, 101]) :
    Calls Tryz.prog 118 #[.pointer (some ⟨S, 0, none⟩), .string x] w fun e w' => e = .returned (.tuple #[]) ∧ Sc w' S t 2 a v ∧ Gb S w w' := by
  have h1 := Any.strings_Trim_laid Tryz.lays160 (by kernel_rfl) x ⟨#[9, 10, 32]⟩ w (by omega) (by decide) (asc_of (l := [9, 10, 32]) (by decide))
  rw [show (⟨#[9, 10, 32]⟩ : ByteArray).data.toList = [9, 10, 32] from rfl] at h1
  have hxl : x.data.toList.length = x.size := rfl
  have hl := trim_len x.data.toList [9, 10, 32]
  have ha := asc_of (trim_asc (cs := [9, 10, 32]) hc)
  have hsz : (ByteArray.mk (Lib.trimS x.data.toList [9, 10, 32]).toArray).size ≤ 100000 := by
    show (Lib.trimS x.data.toList [9, 10, 32]).toArray.size ≤ 100000
    rw [List.size_toArray]
    omega
  have H2 := Lib.hid (fun W => Tryz.strings_ToLower_ascii ⟨(Lib.trimS x.data.toList [9, 10, 32]).toArray⟩ W (by omega) ha)
  rw [show Lib.toLowerA (ByteArray.mk (Lib.trimS x.data.toList [9, 10, 32]).toArray).data.toList = pgT x from rfl] at H2
  obtain ⟨l, hl2⟩ : ∃ l, pgT x = l := ⟨_, rfl⟩
  obtain ⟨y, hy⟩ : ∃ y, (ByteArray.mk (Lib.trimS x.data.toList [9, 10, 32]).toArray) = y := ⟨_, rfl⟩
  rw [hl2, hy] at H2
  replace h1 : Calls Tryz.prog 130 #[.string x, .string ⟨#[9, 10, 32]⟩] w fun e w' => e = .returned (.string y) ∧ Below w.heap.size w w' := by rw [← hy]; exact h1
  have b0 : (l == [117, 112, 112, 101, 114]) = false := by rw [← hl2]; exact beq_eq_false_iff_ne.2 e0
  have b1 : (l == [112, 111, 105, 110, 116]) = false := by rw [← hl2]; exact beq_eq_false_iff_ne.2 e1
  have b2 : (l == [113, 117, 111, 116, 101]) = true := by rw [← hl2]; exact beq_iff_eq.2 e2
  have H1 := Lib.hid h1
  have HS := Lib.hid hS
  have hlt := hS.lt
  clear h1 hS ha hsz hl hxl hx hc hy hl2
  go_enter Tryz.func118, Tryz.ntmps118
  go_wp2_with (first | (go_at_call 130; (with_reducible refine H1.out.mono ?_); rintro e w1 ⟨rfl, hb1⟩) | (go_at_call 103; (with_reducible refine (H2.out _).mono ?_); rintro e w2 ⟨rfl, k2⟩; (have hb2 := Below.call hb1 hb1.size k2); (have hz2 := hb2.size); (have hS2 := Own.kept HS.out hb2); (have g1 : w2.cell? ⟨S, 1, none⟩ = some (.int .i64 r) := Own.cell hS2 1); (have gf := fun i => Own.frozen hS2 i); (have HS2 := Lib.hid hS2); clear hS2))
  go_returns
  refine ⟨rfl, Own.put HS2.out 1 (.int .i64 2), ?_⟩
  exact (Gb.of hb2).set (Or.inl rfl) _
set_option maxHeartbeats 1000000 in
theorem set_n (S : Nat) (t x : ByteArray) (r a : Int) (v : Value) (w : World) (hS : Sc w S t r a v) (hx : x.size ≤ 100000) (hc : ∀ c ∈ x.data.toList, c.toNat < 128) (e0 : pgT x ≠ [117, 112, 112, 101, 114]) (e1 : pgT x ≠ [112, 111, 105, 110, 116]) (e2 : pgT x ≠ [113, 117, 111, 116, 101]) :
    Calls Tryz.prog 118 #[.pointer (some ⟨S, 0, none⟩), .string x] w fun e w' => e = .returned (.tuple #[]) ∧ Sc w' S t r a v ∧ Gb S w w' := by
  have h1 := Any.strings_Trim_laid Tryz.lays160 (by kernel_rfl) x ⟨#[9, 10, 32]⟩ w (by omega) (by decide) (asc_of (l := [9, 10, 32]) (by decide))
  rw [show (⟨#[9, 10, 32]⟩ : ByteArray).data.toList = [9, 10, 32] from rfl] at h1
  have hxl : x.data.toList.length = x.size := rfl
  have hl := trim_len x.data.toList [9, 10, 32]
  have ha := asc_of (trim_asc (cs := [9, 10, 32]) hc)
  have hsz : (ByteArray.mk (Lib.trimS x.data.toList [9, 10, 32]).toArray).size ≤ 100000 := by
    show (Lib.trimS x.data.toList [9, 10, 32]).toArray.size ≤ 100000
    rw [List.size_toArray]
    omega
  have H2 := Lib.hid (fun W => Tryz.strings_ToLower_ascii ⟨(Lib.trimS x.data.toList [9, 10, 32]).toArray⟩ W (by omega) ha)
  rw [show Lib.toLowerA (ByteArray.mk (Lib.trimS x.data.toList [9, 10, 32]).toArray).data.toList = pgT x from rfl] at H2
  obtain ⟨l, hl2⟩ : ∃ l, pgT x = l := ⟨_, rfl⟩
  obtain ⟨y, hy⟩ : ∃ y, (ByteArray.mk (Lib.trimS x.data.toList [9, 10, 32]).toArray) = y := ⟨_, rfl⟩
  rw [hl2, hy] at H2
  replace h1 : Calls Tryz.prog 130 #[.string x, .string ⟨#[9, 10, 32]⟩] w fun e w' => e = .returned (.string y) ∧ Below w.heap.size w w' := by rw [← hy]; exact h1
  have b0 : (l == [117, 112, 112, 101, 114]) = false := by rw [← hl2]; exact beq_eq_false_iff_ne.2 e0
  have b1 : (l == [112, 111, 105, 110, 116]) = false := by rw [← hl2]; exact beq_eq_false_iff_ne.2 e1
  have b2 : (l == [113, 117, 111, 116, 101]) = false := by rw [← hl2]; exact beq_eq_false_iff_ne.2 e2
  have H1 := Lib.hid h1
  have HS := Lib.hid hS
  have hlt := hS.lt
  clear h1 hS ha hsz hl hxl hx hc hy hl2
  go_enter Tryz.func118, Tryz.ntmps118
  go_wp2_with (first | (go_at_call 130; (with_reducible refine H1.out.mono ?_); rintro e w1 ⟨rfl, hb1⟩) | (go_at_call 103; (with_reducible refine (H2.out _).mono ?_); rintro e w2 ⟨rfl, k2⟩; (have hb2 := Below.call hb1 hb1.size k2); (have hz2 := hb2.size); (have hS2 := Own.kept HS.out hb2); (have g1 : w2.cell? ⟨S, 1, none⟩ = some (.int .i64 r) := Own.cell hS2 1); (have gf := fun i => Own.frozen hS2 i); (have HS2 := Lib.hid hS2); clear hS2))
  go_returns
  exact ⟨rfl, HS2.out, Gb.of hb2⟩
theorem set_any (S : Nat) (t x : ByteArray) (r a : Int) (v : Value) (w : World) (hS : Sc w S t r a v) (hx : x.size ≤ 100000) (hc : ∀ c ∈ x.data.toList, c.toNat < 128) :
    Calls Tryz.prog 118 #[.pointer (some ⟨S, 0, none⟩), .string x] w fun e w' => e = .returned (.tuple #[]) ∧ Sc w' S t (pgR r x) a v ∧ Gb S w w' := by
  unfold pgR
  by_cases h0 : pgT x = [117, 112, 112, 101, 114]
  · rw [if_pos h0]; exact set_u S t x r a v w hS hx hc h0
  · rw [if_neg h0]
    by_cases h1 : pgT x = [112, 111, 105, 110, 116]
    · rw [if_pos h1]; exact set_p S t x r a v w hS hx hc h0 h1
    · rw [if_neg h1]
      by_cases h2 : pgT x = [113, 117, 111, 116, 101]
      · rw [if_pos h2]; exact set_q S t x r a v w hS hx hc h0 h1 h2
      · rw [if_neg h2]; exact set_n S t x r a v w hS hx hc h0 h1 h2
end Go.Proofs.YtbnldpcbdeeflaaGreatDoor
