/- The scanner's longest number. Condition: the scanner's cells hold the text, the regime and the place. -/
import Derived.Test.YtbnldpcbdeeflaaGreatDoorLo
namespace Go.Proofs.YtbnldpcbdeeflaaGreatDoor
open Go.ChangeShapes Go.WideShapes Go.ChangeAt Go.RowKit

theorem rn_end (f : Int → Bool) (hf : f 0 = false) (r : Int) (t : ByteArray) (i e : Nat) (he : e ≤ t.size) : (rn f hf r t i e).2 ≤ t.size := by
  rw [rn]
  by_cases h : f (ch r t i) = true
  · rw [dif_pos h]
    have h1 := ch_lt hf h
    have h2 := sk_ge t (i + 1)
    exact rn_end f hf r t (sk t (i + 1)) (i + 1) h1
  · rw [dif_neg h]
    exact he
termination_by t.size - i
theorem rnF_end (f : Int → Bool) (hf : f 0 = false) (r : Int) (t : ByteArray) (a : Nat) (ha : a ≤ t.size) : (rnF f hf r t a).2 ≤ t.size := rn_end f hf r t _ a ha
theorem full_bytes {y : ByteArray} (hy : y ≠ ⟨#[]⟩) : y.toList.isEmpty = false := by
  rw [ByteArray.toList_eq]
  cases h : y.data.toList with
  | nil => exact absurd (bytes_inj (a := y) (b := ⟨#[]⟩) h) hy
  | cons _ _ => rfl
theorem rdF_len (r : Int) (t : ByteArray) (a : Nat) : (rdF r t a).1.length ≤ t.size := by
  unfold rdF
  split
  · exact rnF_len bHx bHx0 r t _
  · exact Nat.zero_le _
theorem exF_len (r : Int) (t : ByteArray) (a : Nat) : (exF r t a).1.size ≤ t.size + 2 := by
  have hz : (⟨#[101]⟩ : ByteArray).size = 1 := rfl
  have hq : ∀ b, (rnF bDi bDi0 r t b).1.length ≤ t.size := fun b => rnF_len bDi bDi0 r t b
  have hs : ∀ b, (⟨(rnF bDi bDi0 r t b).1.toArray⟩ : ByteArray).size = (rnF bDi bDi0 r t b).1.length := fun b => by simp [ByteArray.size]
  unfold exF
  split
  · split
    · unfold exS
      split
      · exact Nat.zero_le _
      · have := hq (sk t (sk t a + 1) + 1)
        simp only [ByteArray.size_append, hz, hs, ByteArray.size_extract]
        omega
    · unfold exS
      split
      · exact Nat.zero_le _
      · have := hq (sk t (sk t a + 1))
        simp only [ByteArray.size_append, hz, hs]
        omega
  · exact Nat.zero_le _
/-- A number without its exponent: its kind, its text, the index behind it. -/
def mnF (r : Int) (t : ByteArray) (q : List UInt8 × Nat) : Int × ByteArray × Nat :=
  if pk t (sk t q.2) = 46 ∧ bDi (pk t (sk t q.2 + 1)) = true then (4, ⟨q.1.toArray⟩ ++ ⟨#[46]⟩ ++ ⟨(rnF bDi bDi0 r t (sk t q.2 + 1)).1.toArray⟩, (rnF bDi bDi0 r t (sk t q.2 + 1)).2) else (3, ⟨q.1.toArray⟩, q.2)
def xnF (r : Int) (t : ByteArray) (m : Int × ByteArray × Nat) : Int × ByteArray × Nat := if (exF r t m.2.2).1 = ⟨#[]⟩ then m else (4, m.2.1 ++ (exF r t m.2.2).1, (exF r t m.2.2).2)
/-- The longest number: its kind, its text, the index behind it. -/
def nbF (r : Int) (t : ByteArray) (a : Nat) : Int × ByteArray × Nat :=
  if (rdF r t (rnF bDi bDi0 r t a).2).1 = [] then xnF r t (mnF r t (rnF bDi bDi0 r t a))
  else (5, ⟨(rnF bDi bDi0 r t a).1.toArray⟩ ++ ⟨#[114]⟩ ++ ⟨(rdF r t (rnF bDi bDi0 r t a).2).1.toArray⟩, (rdF r t (rnF bDi bDi0 r t a).2).2)
set_option maxHeartbeats 2000000 in
theorem nb_bits (t : ByteArray) (S a : Nat) (r : Int) (v : Value) (q d : List UInt8 × Nat) (w : World) (hS : Sc w S t r (a : Int) v) (hl : t.size ≤ 100000) (ha : a ≤ t.size) (hq : rnF bDi bDi0 r t a = q) (hd : rdF r t q.2 = d) (hn : d.1 ≠ []) :
    Calls Tryz.prog 81 #[.pointer (some ⟨S, 0, none⟩)] w fun e w' => e = .returned (.tuple #[.int .i64 5, .string (⟨q.1.toArray⟩ ++ ⟨#[114]⟩ ++ ⟨d.1.toArray⟩), .int .i64 (d.2 : Int)]) ∧ Below w.heap.size w w' := by
  have c0 := hS.c0
  have c1 := hS.c1
  have c2 := hS.c2
  have hSl := hS.lt
  have HC : Hid (∀ W, Below w.heap.size w W → W.cell? ⟨S, 0, none⟩ = some (.string t) ∧ W.cell? ⟨S, 1, none⟩ = some (.int .i64 r)) := Lib.hid (fun W hb => ⟨(hb.cell (p := ⟨S, 0, none⟩) hSl).trans c0, (hb.cell (p := ⟨S, 1, none⟩) hSl).trans c1⟩)
  have hqe := rnF_end bDi bDi0 r t a ha
  have hql := rnF_len bDi bDi0 r t a
  have hdl := rdF_len r t q.2
  rw [hq] at hqe hql
  rw [hd] at hdl
  have h1 := run_di t S a r w c0 c1 hl ha
  rw [hq] at h1
  have HD : Hid (∀ W, Below w.heap.size w W → Calls Tryz.prog 111 #[.pointer (some ⟨S, 0, none⟩), .int .i64 (q.2 : Int)] W fun e w' => e = .returned (.tuple #[.string ⟨d.1.toArray⟩, .int .i64 (d.2 : Int)]) ∧ Below W.heap.size W w') := Lib.hid (fun W hb => by rw [← hd]; exact radix_any t S q.2 r W (HC.out W hb).1 (HC.out W hb).2 hl hqe)
  have H1 := Lib.hid h1
  obtain ⟨ql, qe⟩ := q
  obtain ⟨dl, de⟩ := d
  simp only at hql hdl hn
  obtain ⟨x, xs, rfl⟩ : ∃ x xs, dl = x :: xs := by
    cases dl with
    | nil => exact absurd rfl hn
    | cons x xs => exact ⟨x, xs, rfl⟩
  have hxl : xs.length ≤ 100000 := by simp only [List.length_cons] at hdl; omega
  have hql2 : ql.length ≤ 100000 := by omega
  clear h1 hq hd hqe hql hdl hn c0 c1 hS
  go_enter Tryz.func81, Tryz.ntmps81
  go_wp2_with (first | (go_at_call 46; (with_reducible refine H1.out.mono ?_); rintro e w1 ⟨rfl, hb1⟩) | (go_at_call 111; (with_reducible refine (HD.out w1 hb1).mono ?_); rintro e w2 ⟨rfl, k2⟩; (have hb2 := Below.call hb1 hb1.size k2)))
  go_returns
  exact ⟨rfl, hb2⟩
set_option maxHeartbeats 2000000 in
theorem nb_a0 (t : ByteArray) (S a : Nat) (r : Int) (v : Value) (q d : List UInt8 × Nat) (w : World) (hS : Sc w S t r (a : Int) v) (hl : t.size ≤ 100000) (ha : a ≤ t.size) (hq : rnF bDi bDi0 r t a = q) (hd : rdF r t q.2 = d) (hn : d.1 = []) (k : Nat) (hk : sk t q.2 = k) (hp : pk t k ≠ 46) (y : ByteArray) (z : Nat) (hx : exF r t q.2 = (y, z)) (hy : y = ⟨#[]⟩) :
    Calls Tryz.prog 81 #[.pointer (some ⟨S, 0, none⟩)] w fun e w' => e = .returned (.tuple #[.int .i64 3, .string (⟨q.1.toArray⟩), .int .i64 (q.2 : Int)]) ∧ Below w.heap.size w w' := by
  have c0 := hS.c0
  have c1 := hS.c1
  have c2 := hS.c2
  have hSl := hS.lt
  have HC : Hid (∀ W, Below w.heap.size w W → W.cell? ⟨S, 0, none⟩ = some (.string t) ∧ W.cell? ⟨S, 1, none⟩ = some (.int .i64 r)) := Lib.hid (fun W hb => ⟨(hb.cell (p := ⟨S, 0, none⟩) hSl).trans c0, (hb.cell (p := ⟨S, 1, none⟩) hSl).trans c1⟩)
  have hqe := rnF_end bDi bDi0 r t a ha
  have hql := rnF_len bDi bDi0 r t a
  have hdl := rdF_len r t q.2
  rw [hq] at hqe hql
  rw [hd] at hdl
  have h1 := run_di t S a r w c0 c1 hl ha
  rw [hq] at h1
  have HD : Hid (∀ W, Below w.heap.size w W → Calls Tryz.prog 111 #[.pointer (some ⟨S, 0, none⟩), .int .i64 (q.2 : Int)] W fun e w' => e = .returned (.tuple #[.string ⟨d.1.toArray⟩, .int .i64 (d.2 : Int)]) ∧ Below W.heap.size W w') := Lib.hid (fun W hb => by rw [← hd]; exact radix_any t S q.2 r W (HC.out W hb).1 (HC.out W hb).2 hl hqe)
  have HX : Hid (∀ W, Below w.heap.size w W → Calls Tryz.prog 112 #[.pointer (some ⟨S, 0, none⟩), .int .i64 (q.2 : Int)] W fun e w' => e = .returned (.tuple #[.string y, .int .i64 (z : Int)]) ∧ Below W.heap.size W w') := Lib.hid (fun W hb => by have := exp_any t S q.2 r W (HC.out W hb).1 (HC.out W hb).2 hl hqe; rwa [hx] at this)
  have hxl := exF_len r t q.2
  rw [hx] at hxl
  have hyl : y.size ≤ 100002 := by simp only at hxl; omega
  have hke : k ≤ t.size := by rw [← hk]; exact sk_le hqe
  have HK : Hid (∀ W, Below w.heap.size w W → Calls Tryz.prog 21 #[.pointer (some ⟨S, 0, none⟩), .int .i64 (q.2 : Int)] W fun e w' => e = .returned (.int .i64 (k : Int)) ∧ W = w') := Lib.hid (fun W hb => by rw [← hk]; exact skip_any t S q.2 W (HC.out W hb).1 hl (by omega))
  obtain ⟨p, hpe⟩ : ∃ p, pk t k = p := ⟨_, rfl⟩
  rw [hpe] at hp
  have HP : Hid (∀ W, Below w.heap.size w W → Calls Tryz.prog 38 #[.pointer (some ⟨S, 0, none⟩), .int .i64 (k : Int)] W fun e w' => e = .returned (.int .u8 p) ∧ W = w') := Lib.hid (fun W hb => by rw [← hpe]; exact peek_any t S k W (HC.out W hb).1 hl (by omega))
  have hpb : (p == 46) = false := by rw [beq_eq_false_iff_ne]; exact hp
  clear hp hpe
  have H1 := Lib.hid h1
  obtain ⟨ql, qe⟩ := q
  obtain ⟨dl, de⟩ := d
  simp only at hql hdl hn hqe
  have hql2 : ql.length ≤ 100000 := by omega
  have hqe2 : qe ≤ 100000 := by omega
  have hk2 : k ≤ 100000 := by omega
  subst hn
  subst hy
  clear h1 hq hd hqe hql hdl c0 c1 hS hx hxl hk hke hl ha
  go_enter Tryz.func81, Tryz.ntmps81
  go_wp2_with (first | (go_at_call 46; (with_reducible refine H1.out.mono ?_); rintro e w1 ⟨rfl, hb1⟩) | (go_at_call 111; (with_reducible refine (HD.out w1 hb1).mono ?_); rintro e w2 ⟨rfl, k2⟩; (have hb2 := Below.call hb1 hb1.size k2)) | (go_at_call 21; (with_reducible refine (HK.out w2 hb2).mono ?_); rintro e w' ⟨rfl, rfl⟩) | (go_at_call 38; (with_reducible refine (HP.out w2 hb2).mono ?_); rintro e w' ⟨rfl, rfl⟩) | (go_at_call 112; (with_reducible refine (HX.out w2 hb2).mono ?_); rintro e w4 ⟨rfl, k4⟩; (have hb4 := Below.call hb2 hb2.size k4)))
  go_returns
  exact ⟨rfl, hb4⟩
set_option maxHeartbeats 2000000 in
theorem nb_a1 (t : ByteArray) (S a : Nat) (r : Int) (v : Value) (q d : List UInt8 × Nat) (w : World) (hS : Sc w S t r (a : Int) v) (hl : t.size ≤ 100000) (ha : a ≤ t.size) (hq : rnF bDi bDi0 r t a = q) (hd : rdF r t q.2 = d) (hn : d.1 = []) (k : Nat) (hk : sk t q.2 = k) (hp : pk t k ≠ 46) (y : ByteArray) (z : Nat) (hx : exF r t q.2 = (y, z)) (hy : y ≠ ⟨#[]⟩) :
    Calls Tryz.prog 81 #[.pointer (some ⟨S, 0, none⟩)] w fun e w' => e = .returned (.tuple #[.int .i64 4, .string (⟨q.1.toArray⟩ ++ y), .int .i64 (z : Int)]) ∧ Below w.heap.size w w' := by
  have c0 := hS.c0
  have c1 := hS.c1
  have c2 := hS.c2
  have hSl := hS.lt
  have HC : Hid (∀ W, Below w.heap.size w W → W.cell? ⟨S, 0, none⟩ = some (.string t) ∧ W.cell? ⟨S, 1, none⟩ = some (.int .i64 r)) := Lib.hid (fun W hb => ⟨(hb.cell (p := ⟨S, 0, none⟩) hSl).trans c0, (hb.cell (p := ⟨S, 1, none⟩) hSl).trans c1⟩)
  have hqe := rnF_end bDi bDi0 r t a ha
  have hql := rnF_len bDi bDi0 r t a
  have hdl := rdF_len r t q.2
  rw [hq] at hqe hql
  rw [hd] at hdl
  have h1 := run_di t S a r w c0 c1 hl ha
  rw [hq] at h1
  have HD : Hid (∀ W, Below w.heap.size w W → Calls Tryz.prog 111 #[.pointer (some ⟨S, 0, none⟩), .int .i64 (q.2 : Int)] W fun e w' => e = .returned (.tuple #[.string ⟨d.1.toArray⟩, .int .i64 (d.2 : Int)]) ∧ Below W.heap.size W w') := Lib.hid (fun W hb => by rw [← hd]; exact radix_any t S q.2 r W (HC.out W hb).1 (HC.out W hb).2 hl hqe)
  have HX : Hid (∀ W, Below w.heap.size w W → Calls Tryz.prog 112 #[.pointer (some ⟨S, 0, none⟩), .int .i64 (q.2 : Int)] W fun e w' => e = .returned (.tuple #[.string y, .int .i64 (z : Int)]) ∧ Below W.heap.size W w') := Lib.hid (fun W hb => by have := exp_any t S q.2 r W (HC.out W hb).1 (HC.out W hb).2 hl hqe; rwa [hx] at this)
  have hxl := exF_len r t q.2
  rw [hx] at hxl
  have hyl : y.size ≤ 100002 := by simp only at hxl; omega
  have hke : k ≤ t.size := by rw [← hk]; exact sk_le hqe
  have HK : Hid (∀ W, Below w.heap.size w W → Calls Tryz.prog 21 #[.pointer (some ⟨S, 0, none⟩), .int .i64 (q.2 : Int)] W fun e w' => e = .returned (.int .i64 (k : Int)) ∧ W = w') := Lib.hid (fun W hb => by rw [← hk]; exact skip_any t S q.2 W (HC.out W hb).1 hl (by omega))
  obtain ⟨p, hpe⟩ : ∃ p, pk t k = p := ⟨_, rfl⟩
  rw [hpe] at hp
  have HP : Hid (∀ W, Below w.heap.size w W → Calls Tryz.prog 38 #[.pointer (some ⟨S, 0, none⟩), .int .i64 (k : Int)] W fun e w' => e = .returned (.int .u8 p) ∧ W = w') := Lib.hid (fun W hb => by rw [← hpe]; exact peek_any t S k W (HC.out W hb).1 hl (by omega))
  have hpb : (p == 46) = false := by rw [beq_eq_false_iff_ne]; exact hp
  clear hp hpe
  have H1 := Lib.hid h1
  obtain ⟨ql, qe⟩ := q
  obtain ⟨dl, de⟩ := d
  simp only at hql hdl hn hqe
  have hql2 : ql.length ≤ 100000 := by omega
  have hqe2 : qe ≤ 100000 := by omega
  have hk2 : k ≤ 100000 := by omega
  subst hn
  have hyb := full_bytes hy
  clear hy
  clear h1 hq hd hqe hql hdl c0 c1 hS hx hxl hk hke hl ha
  go_enter Tryz.func81, Tryz.ntmps81
  go_wp2_with (first | (go_at_call 46; (with_reducible refine H1.out.mono ?_); rintro e w1 ⟨rfl, hb1⟩) | (go_at_call 111; (with_reducible refine (HD.out w1 hb1).mono ?_); rintro e w2 ⟨rfl, k2⟩; (have hb2 := Below.call hb1 hb1.size k2)) | (go_at_call 21; (with_reducible refine (HK.out w2 hb2).mono ?_); rintro e w' ⟨rfl, rfl⟩) | (go_at_call 38; (with_reducible refine (HP.out w2 hb2).mono ?_); rintro e w' ⟨rfl, rfl⟩) | (go_at_call 112; (with_reducible refine (HX.out w2 hb2).mono ?_); rintro e w4 ⟨rfl, k4⟩; (have hb4 := Below.call hb2 hb2.size k4)))
  go_returns
  exact ⟨rfl, hb4⟩
set_option maxHeartbeats 2000000 in
theorem nb_b0 (t : ByteArray) (S a : Nat) (r : Int) (v : Value) (q d : List UInt8 × Nat) (w : World) (hS : Sc w S t r (a : Int) v) (hl : t.size ≤ 100000) (ha : a ≤ t.size) (hq : rnF bDi bDi0 r t a = q) (hd : rdF r t q.2 = d) (hn : d.1 = []) (k : Nat) (hk : sk t q.2 = k) (hp : pk t k = 46) (hp2 : bDi (pk t (k + 1)) = false) (y : ByteArray) (z : Nat) (hx : exF r t q.2 = (y, z)) (hy : y = ⟨#[]⟩) :
    Calls Tryz.prog 81 #[.pointer (some ⟨S, 0, none⟩)] w fun e w' => e = .returned (.tuple #[.int .i64 3, .string (⟨q.1.toArray⟩), .int .i64 (q.2 : Int)]) ∧ Below w.heap.size w w' := by
  have c0 := hS.c0
  have c1 := hS.c1
  have c2 := hS.c2
  have hSl := hS.lt
  have HC : Hid (∀ W, Below w.heap.size w W → W.cell? ⟨S, 0, none⟩ = some (.string t) ∧ W.cell? ⟨S, 1, none⟩ = some (.int .i64 r)) := Lib.hid (fun W hb => ⟨(hb.cell (p := ⟨S, 0, none⟩) hSl).trans c0, (hb.cell (p := ⟨S, 1, none⟩) hSl).trans c1⟩)
  have hqe := rnF_end bDi bDi0 r t a ha
  have hql := rnF_len bDi bDi0 r t a
  have hdl := rdF_len r t q.2
  rw [hq] at hqe hql
  rw [hd] at hdl
  have h1 := run_di t S a r w c0 c1 hl ha
  rw [hq] at h1
  have HD : Hid (∀ W, Below w.heap.size w W → Calls Tryz.prog 111 #[.pointer (some ⟨S, 0, none⟩), .int .i64 (q.2 : Int)] W fun e w' => e = .returned (.tuple #[.string ⟨d.1.toArray⟩, .int .i64 (d.2 : Int)]) ∧ Below W.heap.size W w') := Lib.hid (fun W hb => by rw [← hd]; exact radix_any t S q.2 r W (HC.out W hb).1 (HC.out W hb).2 hl hqe)
  have HX : Hid (∀ W, Below w.heap.size w W → Calls Tryz.prog 112 #[.pointer (some ⟨S, 0, none⟩), .int .i64 (q.2 : Int)] W fun e w' => e = .returned (.tuple #[.string y, .int .i64 (z : Int)]) ∧ Below W.heap.size W w') := Lib.hid (fun W hb => by have := exp_any t S q.2 r W (HC.out W hb).1 (HC.out W hb).2 hl hqe; rwa [hx] at this)
  have hxl := exF_len r t q.2
  rw [hx] at hxl
  have hyl : y.size ≤ 100002 := by simp only at hxl; omega
  have hke : k ≤ t.size := by rw [← hk]; exact sk_le hqe
  have HK : Hid (∀ W, Below w.heap.size w W → Calls Tryz.prog 21 #[.pointer (some ⟨S, 0, none⟩), .int .i64 (q.2 : Int)] W fun e w' => e = .returned (.int .i64 (k : Int)) ∧ W = w') := Lib.hid (fun W hb => by rw [← hk]; exact skip_any t S q.2 W (HC.out W hb).1 hl (by omega))
  have HP : Hid (∀ W, Below w.heap.size w W → Calls Tryz.prog 38 #[.pointer (some ⟨S, 0, none⟩), .int .i64 (k : Int)] W fun e w' => e = .returned (.int .u8 46) ∧ W = w') := Lib.hid (fun W hb => by rw [← hp]; exact peek_any t S k W (HC.out W hb).1 hl (by omega))
  obtain ⟨p, hpe⟩ : ∃ p, pk t (k + 1) = p := ⟨_, rfl⟩
  have hpd := pk_bd t (k + 1)
  rw [hpe] at hp2 hpd
  have HP2 : Hid (∀ W, Below w.heap.size w W → Calls Tryz.prog 38 #[.pointer (some ⟨S, 0, none⟩), .int .i64 ((k : Int) + 1)] W fun e w' => e = .returned (.int .u8 p) ∧ W = w') := Lib.hid (fun W hb => by have := peek_any t S (k + 1) W (HC.out W hb).1 hl (by omega); rwa [hpe, show ((k + 1 : Nat) : Int) = (k : Int) + 1 by omega] at this)
  have HB := Lib.hid (fun w => by_di p w hpd.1 hpd.2)
  rw [hp2] at HB
  clear hp hp2 hpe
  have H1 := Lib.hid h1
  obtain ⟨ql, qe⟩ := q
  obtain ⟨dl, de⟩ := d
  simp only at hql hdl hn hqe
  have hql2 : ql.length ≤ 100000 := by omega
  have hqe2 : qe ≤ 100000 := by omega
  have hk2 : k ≤ 100000 := by omega
  subst hn
  subst hy
  clear h1 hq hd hqe hql hdl c0 c1 hS hx hxl hk hke hl ha
  go_enter Tryz.func81, Tryz.ntmps81
  go_wp2_with (first | (go_at_call 46; (with_reducible refine H1.out.mono ?_); rintro e w1 ⟨rfl, hb1⟩) | (go_at_call 111; (with_reducible refine (HD.out w1 hb1).mono ?_); rintro e w2 ⟨rfl, k2⟩; (have hb2 := Below.call hb1 hb1.size k2)) | (go_at_call 21; (with_reducible refine (HK.out w2 hb2).mono ?_); rintro e w' ⟨rfl, rfl⟩) | (go_at_call 38; (with_reducible refine (HP.out w2 hb2).mono ?_); rintro e w' ⟨rfl, rfl⟩) | (go_at_call 38; (with_reducible refine (HP2.out w2 hb2).mono ?_); rintro e w' ⟨rfl, rfl⟩) | (go_at_call 42; (with_reducible refine (HB.out _).mono ?_); rintro e w' ⟨rfl, rfl⟩) | (go_at_call 112; (with_reducible refine (HX.out w2 hb2).mono ?_); rintro e w4 ⟨rfl, k4⟩; (have hb4 := Below.call hb2 hb2.size k4)))
  go_returns
  exact ⟨rfl, hb4⟩
set_option maxHeartbeats 2000000 in
theorem nb_b1 (t : ByteArray) (S a : Nat) (r : Int) (v : Value) (q d : List UInt8 × Nat) (w : World) (hS : Sc w S t r (a : Int) v) (hl : t.size ≤ 100000) (ha : a ≤ t.size) (hq : rnF bDi bDi0 r t a = q) (hd : rdF r t q.2 = d) (hn : d.1 = []) (k : Nat) (hk : sk t q.2 = k) (hp : pk t k = 46) (hp2 : bDi (pk t (k + 1)) = false) (y : ByteArray) (z : Nat) (hx : exF r t q.2 = (y, z)) (hy : y ≠ ⟨#[]⟩) :
    Calls Tryz.prog 81 #[.pointer (some ⟨S, 0, none⟩)] w fun e w' => e = .returned (.tuple #[.int .i64 4, .string (⟨q.1.toArray⟩ ++ y), .int .i64 (z : Int)]) ∧ Below w.heap.size w w' := by
  have c0 := hS.c0
  have c1 := hS.c1
  have c2 := hS.c2
  have hSl := hS.lt
  have HC : Hid (∀ W, Below w.heap.size w W → W.cell? ⟨S, 0, none⟩ = some (.string t) ∧ W.cell? ⟨S, 1, none⟩ = some (.int .i64 r)) := Lib.hid (fun W hb => ⟨(hb.cell (p := ⟨S, 0, none⟩) hSl).trans c0, (hb.cell (p := ⟨S, 1, none⟩) hSl).trans c1⟩)
  have hqe := rnF_end bDi bDi0 r t a ha
  have hql := rnF_len bDi bDi0 r t a
  have hdl := rdF_len r t q.2
  rw [hq] at hqe hql
  rw [hd] at hdl
  have h1 := run_di t S a r w c0 c1 hl ha
  rw [hq] at h1
  have HD : Hid (∀ W, Below w.heap.size w W → Calls Tryz.prog 111 #[.pointer (some ⟨S, 0, none⟩), .int .i64 (q.2 : Int)] W fun e w' => e = .returned (.tuple #[.string ⟨d.1.toArray⟩, .int .i64 (d.2 : Int)]) ∧ Below W.heap.size W w') := Lib.hid (fun W hb => by rw [← hd]; exact radix_any t S q.2 r W (HC.out W hb).1 (HC.out W hb).2 hl hqe)
  have HX : Hid (∀ W, Below w.heap.size w W → Calls Tryz.prog 112 #[.pointer (some ⟨S, 0, none⟩), .int .i64 (q.2 : Int)] W fun e w' => e = .returned (.tuple #[.string y, .int .i64 (z : Int)]) ∧ Below W.heap.size W w') := Lib.hid (fun W hb => by have := exp_any t S q.2 r W (HC.out W hb).1 (HC.out W hb).2 hl hqe; rwa [hx] at this)
  have hxl := exF_len r t q.2
  rw [hx] at hxl
  have hyl : y.size ≤ 100002 := by simp only at hxl; omega
  have hke : k ≤ t.size := by rw [← hk]; exact sk_le hqe
  have HK : Hid (∀ W, Below w.heap.size w W → Calls Tryz.prog 21 #[.pointer (some ⟨S, 0, none⟩), .int .i64 (q.2 : Int)] W fun e w' => e = .returned (.int .i64 (k : Int)) ∧ W = w') := Lib.hid (fun W hb => by rw [← hk]; exact skip_any t S q.2 W (HC.out W hb).1 hl (by omega))
  have HP : Hid (∀ W, Below w.heap.size w W → Calls Tryz.prog 38 #[.pointer (some ⟨S, 0, none⟩), .int .i64 (k : Int)] W fun e w' => e = .returned (.int .u8 46) ∧ W = w') := Lib.hid (fun W hb => by rw [← hp]; exact peek_any t S k W (HC.out W hb).1 hl (by omega))
  obtain ⟨p, hpe⟩ : ∃ p, pk t (k + 1) = p := ⟨_, rfl⟩
  have hpd := pk_bd t (k + 1)
  rw [hpe] at hp2 hpd
  have HP2 : Hid (∀ W, Below w.heap.size w W → Calls Tryz.prog 38 #[.pointer (some ⟨S, 0, none⟩), .int .i64 ((k : Int) + 1)] W fun e w' => e = .returned (.int .u8 p) ∧ W = w') := Lib.hid (fun W hb => by have := peek_any t S (k + 1) W (HC.out W hb).1 hl (by omega); rwa [hpe, show ((k + 1 : Nat) : Int) = (k : Int) + 1 by omega] at this)
  have HB := Lib.hid (fun w => by_di p w hpd.1 hpd.2)
  rw [hp2] at HB
  clear hp hp2 hpe
  have H1 := Lib.hid h1
  obtain ⟨ql, qe⟩ := q
  obtain ⟨dl, de⟩ := d
  simp only at hql hdl hn hqe
  have hql2 : ql.length ≤ 100000 := by omega
  have hqe2 : qe ≤ 100000 := by omega
  have hk2 : k ≤ 100000 := by omega
  subst hn
  have hyb := full_bytes hy
  clear hy
  clear h1 hq hd hqe hql hdl c0 c1 hS hx hxl hk hke hl ha
  go_enter Tryz.func81, Tryz.ntmps81
  go_wp2_with (first | (go_at_call 46; (with_reducible refine H1.out.mono ?_); rintro e w1 ⟨rfl, hb1⟩) | (go_at_call 111; (with_reducible refine (HD.out w1 hb1).mono ?_); rintro e w2 ⟨rfl, k2⟩; (have hb2 := Below.call hb1 hb1.size k2)) | (go_at_call 21; (with_reducible refine (HK.out w2 hb2).mono ?_); rintro e w' ⟨rfl, rfl⟩) | (go_at_call 38; (with_reducible refine (HP.out w2 hb2).mono ?_); rintro e w' ⟨rfl, rfl⟩) | (go_at_call 38; (with_reducible refine (HP2.out w2 hb2).mono ?_); rintro e w' ⟨rfl, rfl⟩) | (go_at_call 42; (with_reducible refine (HB.out _).mono ?_); rintro e w' ⟨rfl, rfl⟩) | (go_at_call 112; (with_reducible refine (HX.out w2 hb2).mono ?_); rintro e w4 ⟨rfl, k4⟩; (have hb4 := Below.call hb2 hb2.size k4)))
  go_returns
  exact ⟨rfl, hb4⟩
set_option maxHeartbeats 2000000 in
theorem nb_c0 (t : ByteArray) (S a : Nat) (r : Int) (v : Value) (q d : List UInt8 × Nat) (w : World) (hS : Sc w S t r (a : Int) v) (hl : t.size ≤ 100000) (ha : a ≤ t.size) (hq : rnF bDi bDi0 r t a = q) (hd : rdF r t q.2 = d) (hn : d.1 = []) (k : Nat) (hk : sk t q.2 = k) (hp : pk t k = 46) (hp2 : bDi (pk t (k + 1)) = true) (g : List UInt8 × Nat) (hg : rnF bDi bDi0 r t (k + 1) = g) (y : ByteArray) (z : Nat) (hx : exF r t g.2 = (y, z)) (hy : y = ⟨#[]⟩) :
    Calls Tryz.prog 81 #[.pointer (some ⟨S, 0, none⟩)] w fun e w' => e = .returned (.tuple #[.int .i64 4, .string (⟨q.1.toArray⟩ ++ ⟨#[46]⟩ ++ ⟨g.1.toArray⟩), .int .i64 (g.2 : Int)]) ∧ Below w.heap.size w w' := by
  have c0 := hS.c0
  have c1 := hS.c1
  have c2 := hS.c2
  have hSl := hS.lt
  have HC : Hid (∀ W, Below w.heap.size w W → W.cell? ⟨S, 0, none⟩ = some (.string t) ∧ W.cell? ⟨S, 1, none⟩ = some (.int .i64 r)) := Lib.hid (fun W hb => ⟨(hb.cell (p := ⟨S, 0, none⟩) hSl).trans c0, (hb.cell (p := ⟨S, 1, none⟩) hSl).trans c1⟩)
  have hqe := rnF_end bDi bDi0 r t a ha
  have hql := rnF_len bDi bDi0 r t a
  have hdl := rdF_len r t q.2
  rw [hq] at hqe hql
  rw [hd] at hdl
  have h1 := run_di t S a r w c0 c1 hl ha
  rw [hq] at h1
  have HD : Hid (∀ W, Below w.heap.size w W → Calls Tryz.prog 111 #[.pointer (some ⟨S, 0, none⟩), .int .i64 (q.2 : Int)] W fun e w' => e = .returned (.tuple #[.string ⟨d.1.toArray⟩, .int .i64 (d.2 : Int)]) ∧ Below W.heap.size W w') := Lib.hid (fun W hb => by rw [← hd]; exact radix_any t S q.2 r W (HC.out W hb).1 (HC.out W hb).2 hl hqe)
  have hk46 : k < t.size := by
    rcases Nat.lt_or_ge k t.size with h | h
    · exact h
    · rw [pk_out h] at hp; omega
  have hge := rnF_end bDi bDi0 r t (k + 1) hk46
  have hgl := rnF_len bDi bDi0 r t (k + 1)
  rw [hg] at hge hgl
  have HX : Hid (∀ W, Below w.heap.size w W → Calls Tryz.prog 112 #[.pointer (some ⟨S, 0, none⟩), .int .i64 (g.2 : Int)] W fun e w' => e = .returned (.tuple #[.string y, .int .i64 (z : Int)]) ∧ Below W.heap.size W w') := Lib.hid (fun W hb => by have := exp_any t S g.2 r W (HC.out W hb).1 (HC.out W hb).2 hl hge; rwa [hx] at this)
  have HR : Hid (∀ W, Below w.heap.size w W → Calls Tryz.prog 46 #[.pointer (some ⟨S, 0, none⟩), .int .i64 ((k : Int) + 1), .func (.func 42) #[] #[]] W fun e w' => e = .returned (.tuple #[.string ⟨g.1.toArray⟩, .int .i64 (g.2 : Int)]) ∧ Below W.heap.size W w') := Lib.hid (fun W hb => by have := run_di t S (k + 1) r W (HC.out W hb).1 (HC.out W hb).2 hl hk46; rwa [hg, show ((k + 1 : Nat) : Int) = (k : Int) + 1 by omega] at this)
  have hxl := exF_len r t g.2
  rw [hx] at hxl
  have hyl : y.size ≤ 100002 := by simp only at hxl; omega
  have hke : k ≤ t.size := by rw [← hk]; exact sk_le hqe
  have HK : Hid (∀ W, Below w.heap.size w W → Calls Tryz.prog 21 #[.pointer (some ⟨S, 0, none⟩), .int .i64 (q.2 : Int)] W fun e w' => e = .returned (.int .i64 (k : Int)) ∧ W = w') := Lib.hid (fun W hb => by rw [← hk]; exact skip_any t S q.2 W (HC.out W hb).1 hl (by omega))
  have HP : Hid (∀ W, Below w.heap.size w W → Calls Tryz.prog 38 #[.pointer (some ⟨S, 0, none⟩), .int .i64 (k : Int)] W fun e w' => e = .returned (.int .u8 46) ∧ W = w') := Lib.hid (fun W hb => by rw [← hp]; exact peek_any t S k W (HC.out W hb).1 hl (by omega))
  obtain ⟨p, hpe⟩ : ∃ p, pk t (k + 1) = p := ⟨_, rfl⟩
  have hpd := pk_bd t (k + 1)
  rw [hpe] at hp2 hpd
  have HP2 : Hid (∀ W, Below w.heap.size w W → Calls Tryz.prog 38 #[.pointer (some ⟨S, 0, none⟩), .int .i64 ((k : Int) + 1)] W fun e w' => e = .returned (.int .u8 p) ∧ W = w') := Lib.hid (fun W hb => by have := peek_any t S (k + 1) W (HC.out W hb).1 hl (by omega); rwa [hpe, show ((k + 1 : Nat) : Int) = (k : Int) + 1 by omega] at this)
  have HB := Lib.hid (fun w => by_di p w hpd.1 hpd.2)
  rw [hp2] at HB
  clear hp hp2 hpe
  have H1 := Lib.hid h1
  obtain ⟨ql, qe⟩ := q
  obtain ⟨dl, de⟩ := d
  simp only at hql hdl hn hqe
  have hql2 : ql.length ≤ 100000 := by omega
  have hqe2 : qe ≤ 100000 := by omega
  have hk2 : k ≤ 100000 := by omega
  obtain ⟨gl, ge⟩ := g
  simp only at hgl hge
  have hgl2 : gl.length ≤ 100000 := by omega
  have hge2 : ge ≤ 100000 := by omega
  clear hg hge hgl hk46
  subst hn
  subst hy
  clear h1 hq hd hqe hql hdl c0 c1 hS hx hxl hk hke hl ha
  go_enter Tryz.func81, Tryz.ntmps81
  go_wp2_with (first | (go_at_call 46; (with_reducible refine H1.out.mono ?_); rintro e w1 ⟨rfl, hb1⟩) | (go_at_call 111; (with_reducible refine (HD.out w1 hb1).mono ?_); rintro e w2 ⟨rfl, k2⟩; (have hb2 := Below.call hb1 hb1.size k2)) | (go_at_call 21; (with_reducible refine (HK.out w2 hb2).mono ?_); rintro e w' ⟨rfl, rfl⟩) | (go_at_call 38; (with_reducible refine (HP.out w2 hb2).mono ?_); rintro e w' ⟨rfl, rfl⟩) | (go_at_call 38; (with_reducible refine (HP2.out w2 hb2).mono ?_); rintro e w' ⟨rfl, rfl⟩) | (go_at_call 42; (with_reducible refine (HB.out _).mono ?_); rintro e w' ⟨rfl, rfl⟩) | (go_at_call 46; (with_reducible refine (HR.out w2 hb2).mono ?_); rintro e w3 ⟨rfl, k3⟩; (have hb3 := Below.call hb2 hb2.size k3)) | (go_at_call 112; (with_reducible refine (HX.out w3 hb3).mono ?_); rintro e w4 ⟨rfl, k4⟩; (have hb4 := Below.call hb3 hb3.size k4)))
  go_returns
  exact ⟨rfl, hb4⟩
set_option maxHeartbeats 2000000 in
theorem nb_c1 (t : ByteArray) (S a : Nat) (r : Int) (v : Value) (q d : List UInt8 × Nat) (w : World) (hS : Sc w S t r (a : Int) v) (hl : t.size ≤ 100000) (ha : a ≤ t.size) (hq : rnF bDi bDi0 r t a = q) (hd : rdF r t q.2 = d) (hn : d.1 = []) (k : Nat) (hk : sk t q.2 = k) (hp : pk t k = 46) (hp2 : bDi (pk t (k + 1)) = true) (g : List UInt8 × Nat) (hg : rnF bDi bDi0 r t (k + 1) = g) (y : ByteArray) (z : Nat) (hx : exF r t g.2 = (y, z)) (hy : y ≠ ⟨#[]⟩) :
    Calls Tryz.prog 81 #[.pointer (some ⟨S, 0, none⟩)] w fun e w' => e = .returned (.tuple #[.int .i64 4, .string (⟨q.1.toArray⟩ ++ ⟨#[46]⟩ ++ ⟨g.1.toArray⟩ ++ y), .int .i64 (z : Int)]) ∧ Below w.heap.size w w' := by
  have c0 := hS.c0
  have c1 := hS.c1
  have c2 := hS.c2
  have hSl := hS.lt
  have HC : Hid (∀ W, Below w.heap.size w W → W.cell? ⟨S, 0, none⟩ = some (.string t) ∧ W.cell? ⟨S, 1, none⟩ = some (.int .i64 r)) := Lib.hid (fun W hb => ⟨(hb.cell (p := ⟨S, 0, none⟩) hSl).trans c0, (hb.cell (p := ⟨S, 1, none⟩) hSl).trans c1⟩)
  have hqe := rnF_end bDi bDi0 r t a ha
  have hql := rnF_len bDi bDi0 r t a
  have hdl := rdF_len r t q.2
  rw [hq] at hqe hql
  rw [hd] at hdl
  have h1 := run_di t S a r w c0 c1 hl ha
  rw [hq] at h1
  have HD : Hid (∀ W, Below w.heap.size w W → Calls Tryz.prog 111 #[.pointer (some ⟨S, 0, none⟩), .int .i64 (q.2 : Int)] W fun e w' => e = .returned (.tuple #[.string ⟨d.1.toArray⟩, .int .i64 (d.2 : Int)]) ∧ Below W.heap.size W w') := Lib.hid (fun W hb => by rw [← hd]; exact radix_any t S q.2 r W (HC.out W hb).1 (HC.out W hb).2 hl hqe)
  have hk46 : k < t.size := by
    rcases Nat.lt_or_ge k t.size with h | h
    · exact h
    · rw [pk_out h] at hp; omega
  have hge := rnF_end bDi bDi0 r t (k + 1) hk46
  have hgl := rnF_len bDi bDi0 r t (k + 1)
  rw [hg] at hge hgl
  have HX : Hid (∀ W, Below w.heap.size w W → Calls Tryz.prog 112 #[.pointer (some ⟨S, 0, none⟩), .int .i64 (g.2 : Int)] W fun e w' => e = .returned (.tuple #[.string y, .int .i64 (z : Int)]) ∧ Below W.heap.size W w') := Lib.hid (fun W hb => by have := exp_any t S g.2 r W (HC.out W hb).1 (HC.out W hb).2 hl hge; rwa [hx] at this)
  have HR : Hid (∀ W, Below w.heap.size w W → Calls Tryz.prog 46 #[.pointer (some ⟨S, 0, none⟩), .int .i64 ((k : Int) + 1), .func (.func 42) #[] #[]] W fun e w' => e = .returned (.tuple #[.string ⟨g.1.toArray⟩, .int .i64 (g.2 : Int)]) ∧ Below W.heap.size W w') := Lib.hid (fun W hb => by have := run_di t S (k + 1) r W (HC.out W hb).1 (HC.out W hb).2 hl hk46; rwa [hg, show ((k + 1 : Nat) : Int) = (k : Int) + 1 by omega] at this)
  have hxl := exF_len r t g.2
  rw [hx] at hxl
  have hyl : y.size ≤ 100002 := by simp only at hxl; omega
  have hke : k ≤ t.size := by rw [← hk]; exact sk_le hqe
  have HK : Hid (∀ W, Below w.heap.size w W → Calls Tryz.prog 21 #[.pointer (some ⟨S, 0, none⟩), .int .i64 (q.2 : Int)] W fun e w' => e = .returned (.int .i64 (k : Int)) ∧ W = w') := Lib.hid (fun W hb => by rw [← hk]; exact skip_any t S q.2 W (HC.out W hb).1 hl (by omega))
  have HP : Hid (∀ W, Below w.heap.size w W → Calls Tryz.prog 38 #[.pointer (some ⟨S, 0, none⟩), .int .i64 (k : Int)] W fun e w' => e = .returned (.int .u8 46) ∧ W = w') := Lib.hid (fun W hb => by rw [← hp]; exact peek_any t S k W (HC.out W hb).1 hl (by omega))
  obtain ⟨p, hpe⟩ : ∃ p, pk t (k + 1) = p := ⟨_, rfl⟩
  have hpd := pk_bd t (k + 1)
  rw [hpe] at hp2 hpd
  have HP2 : Hid (∀ W, Below w.heap.size w W → Calls Tryz.prog 38 #[.pointer (some ⟨S, 0, none⟩), .int .i64 ((k : Int) + 1)] W fun e w' => e = .returned (.int .u8 p) ∧ W = w') := Lib.hid (fun W hb => by have := peek_any t S (k + 1) W (HC.out W hb).1 hl (by omega); rwa [hpe, show ((k + 1 : Nat) : Int) = (k : Int) + 1 by omega] at this)
  have HB := Lib.hid (fun w => by_di p w hpd.1 hpd.2)
  rw [hp2] at HB
  clear hp hp2 hpe
  have H1 := Lib.hid h1
  obtain ⟨ql, qe⟩ := q
  obtain ⟨dl, de⟩ := d
  simp only at hql hdl hn hqe
  have hql2 : ql.length ≤ 100000 := by omega
  have hqe2 : qe ≤ 100000 := by omega
  have hk2 : k ≤ 100000 := by omega
  obtain ⟨gl, ge⟩ := g
  simp only at hgl hge
  have hgl2 : gl.length ≤ 100000 := by omega
  have hge2 : ge ≤ 100000 := by omega
  clear hg hge hgl hk46
  subst hn
  have hyb := full_bytes hy
  clear hy
  clear h1 hq hd hqe hql hdl c0 c1 hS hx hxl hk hke hl ha
  go_enter Tryz.func81, Tryz.ntmps81
  go_wp2_with (first | (go_at_call 46; (with_reducible refine H1.out.mono ?_); rintro e w1 ⟨rfl, hb1⟩) | (go_at_call 111; (with_reducible refine (HD.out w1 hb1).mono ?_); rintro e w2 ⟨rfl, k2⟩; (have hb2 := Below.call hb1 hb1.size k2)) | (go_at_call 21; (with_reducible refine (HK.out w2 hb2).mono ?_); rintro e w' ⟨rfl, rfl⟩) | (go_at_call 38; (with_reducible refine (HP.out w2 hb2).mono ?_); rintro e w' ⟨rfl, rfl⟩) | (go_at_call 38; (with_reducible refine (HP2.out w2 hb2).mono ?_); rintro e w' ⟨rfl, rfl⟩) | (go_at_call 42; (with_reducible refine (HB.out _).mono ?_); rintro e w' ⟨rfl, rfl⟩) | (go_at_call 46; (with_reducible refine (HR.out w2 hb2).mono ?_); rintro e w3 ⟨rfl, k3⟩; (have hb3 := Below.call hb2 hb2.size k3)) | (go_at_call 112; (with_reducible refine (HX.out w3 hb3).mono ?_); rintro e w4 ⟨rfl, k4⟩; (have hb4 := Below.call hb3 hb3.size k4)))
  go_returns
  exact ⟨rfl, hb4⟩
theorem nb_any (t : ByteArray) (S a : Nat) (r : Int) (v : Value) (w : World) (hS : Sc w S t r (a : Int) v) (hl : t.size ≤ 100000) (ha : a ≤ t.size) :
    Calls Tryz.prog 81 #[.pointer (some ⟨S, 0, none⟩)] w fun e w' => e = .returned (.tuple #[.int .i64 (nbF r t a).1, .string (nbF r t a).2.1, .int .i64 ((nbF r t a).2.2 : Int)]) ∧ Below w.heap.size w w' := by
  unfold nbF
  obtain ⟨q, hq⟩ : ∃ q, rnF bDi bDi0 r t a = q := ⟨_, rfl⟩
  rw [hq]
  obtain ⟨d, hd⟩ : ∃ d, rdF r t q.2 = d := ⟨_, rfl⟩
  rw [hd]
  by_cases hn : d.1 = []
  · rw [if_pos hn]
    obtain ⟨k, hk⟩ : ∃ k, sk t q.2 = k := ⟨_, rfl⟩
    by_cases hp : pk t k = 46
    · by_cases hp2 : bDi (pk t (k + 1)) = true
      · obtain ⟨g, hg⟩ : ∃ g, rnF bDi bDi0 r t (k + 1) = g := ⟨_, rfl⟩
        rw [show mnF r t q = (4, ⟨q.1.toArray⟩ ++ ⟨#[46]⟩ ++ ⟨g.1.toArray⟩, g.2) by unfold mnF; rw [hk, if_pos ⟨hp, hp2⟩, hg]]
        unfold xnF
        obtain ⟨⟨y, z⟩, hx⟩ : ∃ x, exF r t g.2 = x := ⟨_, rfl⟩
        simp only [hx]
        by_cases hy : y = ⟨#[]⟩
        · rw [if_pos hy]
          exact nb_c0 t S a r v q d w hS hl ha hq hd hn k hk hp hp2 g hg y z hx hy
        · rw [if_neg hy]
          exact nb_c1 t S a r v q d w hS hl ha hq hd hn k hk hp hp2 g hg y z hx hy
      · rw [show mnF r t q = (3, ⟨q.1.toArray⟩, q.2) by unfold mnF; rw [hk, if_neg (fun h => hp2 h.2)]]
        unfold xnF
        have hp3 : bDi (pk t (k + 1)) = false := by simpa using hp2
        obtain ⟨⟨y, z⟩, hx⟩ : ∃ x, exF r t q.2 = x := ⟨_, rfl⟩
        simp only [hx]
        by_cases hy : y = ⟨#[]⟩
        · rw [if_pos hy]
          exact nb_b0 t S a r v q d w hS hl ha hq hd hn k hk hp hp3 y z hx hy
        · rw [if_neg hy]
          exact nb_b1 t S a r v q d w hS hl ha hq hd hn k hk hp hp3 y z hx hy
    · rw [show mnF r t q = (3, ⟨q.1.toArray⟩, q.2) by unfold mnF; rw [hk, if_neg (fun h => hp h.1)]]
      unfold xnF
      obtain ⟨⟨y, z⟩, hx⟩ : ∃ x, exF r t q.2 = x := ⟨_, rfl⟩
      simp only [hx]
      by_cases hy : y = ⟨#[]⟩
      · rw [if_pos hy]
        exact nb_a0 t S a r v q d w hS hl ha hq hd hn k hk hp y z hx hy
      · rw [if_neg hy]
        exact nb_a1 t S a r v q d w hS hl ha hq hd hn k hk hp y z hx hy
  · rw [if_neg hn]
    exact nb_bits t S a r v q d w hS hl ha hq hd hn
end Go.Proofs.YtbnldpcbdeeflaaGreatDoor
