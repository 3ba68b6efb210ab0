/- The scanner's parts of numbers. Condition: the scanner's cells hold the text and the regime. -/
import Derived.Test.YtbnldpcbdeeflaaGreatDoorRn
namespace Go.Proofs.YtbnldpcbdeeflaaGreatDoor
open Go.ChangeShapes Go.WideShapes Go.ChangeAt Go.RowKit

/-- The digits behind an r, and the index behind them. -/
def rdF (r : Int) (t : ByteArray) (a : Nat) : List UInt8 × Nat := if ch r t (sk t a) = 114 then rnF bHx bHx0 r t (sk t a + 1) else ([], a)
theorem lt_of_ch {r : Int} {t : ByteArray} {i : Nat} {c : Int} (h : ch r t i = c) (hc : c ≠ 0) : i < t.size := by
  rcases Nat.lt_or_ge i t.size with h1 | h1
  · exact h1
  · rw [ch_out h1] at h; exact absurd h.symm hc
theorem rn_len (f : Int → Bool) (hf : f 0 = false) (r : Int) (t : ByteArray) (i e : Nat) : (rn f hf r t i e).1.length ≤ t.size - i := by
  rw [rn]
  by_cases h : f (ch r t i) = true
  · rw [dif_pos h]
    have h1 := ch_lt hf h
    have h2 := sk_ge t (i + 1)
    have h3 := rn_len f hf r t (sk t (i + 1)) (i + 1)
    simp only [List.length_cons]
    omega
  · rw [dif_neg h]
    exact Nat.zero_le _
termination_by t.size - i
theorem rnF_len (f : Int → Bool) (hf : f 0 = false) (r : Int) (t : ByteArray) (a : Nat) : (rnF f hf r t a).1.length ≤ t.size := by have := rn_len f hf r t (sk t a) a; unfold rnF; omega
theorem radix_no (t : ByteArray) (S a : Nat) (r c : Int) (w : World) (c0 : w.cell? ⟨S, 0, none⟩ = some (.string t)) (c1 : w.cell? ⟨S, 1, none⟩ = some (.int .i64 r)) (hl : t.size ≤ 100000) (ha : a ≤ t.size) (hc : ch r t (sk t a) = c) (hn : (c != 114) = true) :
    Calls Tryz.prog 111 #[.pointer (some ⟨S, 0, none⟩), .int .i64 (a : Int)] w fun e w' => e = .returned (.tuple #[.string ⟨#[]⟩, .int .i64 (a : Int)]) ∧ w = w' := by
  have h1 := skip_any t S a w c0 hl (by omega)
  have h2 := char_any t S (sk t a) r w c0 c1 hl (by have := sk_le ha; omega)
  rw [hc] at h2
  have H1 := Lib.hid h1
  have H2 := Lib.hid h2
  clear h1 h2 hc
  go_enter Tryz.func111, Tryz.ntmps111
  go_wp2_with (first | (go_at_call 21; (with_reducible refine (H1.out).mono ?_); rintro e w' ⟨rfl, rfl⟩) | (go_at_call 45; (with_reducible refine (H2.out).mono ?_); rintro e w' ⟨rfl, rfl⟩))
  go_ret2
  exact ⟨rfl, rfl⟩
theorem radix_yes (t : ByteArray) (S a : Nat) (r : Int) (w : World) (c0 : w.cell? ⟨S, 0, none⟩ = some (.string t)) (c1 : w.cell? ⟨S, 1, none⟩ = some (.int .i64 r)) (hl : t.size ≤ 100000) (ha : a ≤ t.size) (hc : ch r t (sk t a) = 114) :
    Calls Tryz.prog 111 #[.pointer (some ⟨S, 0, none⟩), .int .i64 (a : Int)] w fun e w' => e = .returned (.tuple #[.string ⟨(rnF bHx bHx0 r t (sk t a + 1)).1.toArray⟩, .int .i64 ((rnF bHx bHx0 r t (sk t a + 1)).2 : Int)]) ∧ Below w.heap.size w w' := by
  have hk := lt_of_ch hc (by decide)
  have h1 := skip_any t S a w c0 hl (by omega)
  have h2 := char_any t S (sk t a) r w c0 c1 hl (by omega)
  have h3 := run_hx t S (sk t a + 1) r w c0 c1 hl hk
  rw [hc] at h2
  rw [show ((sk t a + 1 : Nat) : Int) = (sk t a : Int) + 1 by omega] at h3
  generalize rnF bHx bHx0 r t (sk t a + 1) = q at h3 ⊢
  generalize sk t a = k at h1 h2 h3 hk
  have H1 := Lib.hid h1
  have H2 := Lib.hid h2
  have H3 := Lib.hid h3
  clear h1 h2 h3 hc
  go_enter Tryz.func111, Tryz.ntmps111
  go_wp2_with (first | (go_at_call 21; (with_reducible refine (H1.out).mono ?_); rintro e w' ⟨rfl, rfl⟩) | (go_at_call 45; (with_reducible refine (H2.out).mono ?_); rintro e w' ⟨rfl, rfl⟩) | (go_at_call 46; (with_reducible refine H3.out.mono ?_); rintro e w1 ⟨rfl, hb1⟩))
  go_ret2
  exact ⟨rfl, hb1⟩
theorem radix_any (t : ByteArray) (S a : Nat) (r : Int) (w : World) (c0 : w.cell? ⟨S, 0, none⟩ = some (.string t)) (c1 : w.cell? ⟨S, 1, none⟩ = some (.int .i64 r)) (hl : t.size ≤ 100000) (ha : a ≤ t.size) :
    Calls Tryz.prog 111 #[.pointer (some ⟨S, 0, none⟩), .int .i64 (a : Int)] w fun e w' => e = .returned (.tuple #[.string ⟨(rdF r t a).1.toArray⟩, .int .i64 ((rdF r t a).2 : Int)]) ∧ Below w.heap.size w w' := by
  unfold rdF
  by_cases h : ch r t (sk t a) = 114
  · rw [if_pos h]
    exact radix_yes t S a r w c0 c1 hl ha h
  · rw [if_neg h]
    exact (radix_no t S a r _ w c0 c1 hl ha rfl (by rw [bne_iff_ne]; exact h)).mono fun e w' ⟨h1, h2⟩ => ⟨h1, h2 ▸ Below.refl _ _⟩
/-- An exponent, and the index behind it, or no text: with its sign, without. -/
def exS (t : ByteArray) (a : Nat) (pre : ByteArray) (q : List UInt8 × Nat) : ByteArray × Nat := if q.1 = [] then (⟨#[]⟩, a) else (pre ++ ⟨q.1.toArray⟩, q.2)
def exF (r : Int) (t : ByteArray) (a : Nat) : ByteArray × Nat :=
  if ch r t (sk t a) = 101 then
    (if pk t (sk t (sk t a + 1)) = 43 ∨ pk t (sk t (sk t a + 1)) = 45 then exS t a (⟨#[101]⟩ ++ t.extract (sk t (sk t a + 1)) (sk t (sk t a + 1) + 1)) (rnF bDi bDi0 r t (sk t (sk t a + 1) + 1))
     else exS t a ⟨#[101]⟩ (rnF bDi bDi0 r t (sk t (sk t a + 1))))
  else (⟨#[]⟩, a)
theorem exp_no (t : ByteArray) (S a : Nat) (r c : Int) (w : World) (c0 : w.cell? ⟨S, 0, none⟩ = some (.string t)) (c1 : w.cell? ⟨S, 1, none⟩ = some (.int .i64 r)) (hl : t.size ≤ 100000) (ha : a ≤ t.size) (hc : ch r t (sk t a) = c) (hn : (c != 101) = true) :
    Calls Tryz.prog 112 #[.pointer (some ⟨S, 0, none⟩), .int .i64 (a : Int)] w fun e w' => e = .returned (.tuple #[.string ⟨#[]⟩, .int .i64 (a : Int)]) ∧ w = w' := by
  have h1 := skip_any t S a w c0 hl (by omega)
  have h2 := char_any t S (sk t a) r w c0 c1 hl (by have := sk_le ha; omega)
  rw [hc] at h2
  have H1 := Lib.hid h1
  have H2 := Lib.hid h2
  clear h1 h2 hc
  go_enter Tryz.func112, Tryz.ntmps112
  go_wp2_with (first | (go_at_call 21; (with_reducible refine (H1.out).mono ?_); rintro e w' ⟨rfl, rfl⟩) | (go_at_call 45; (with_reducible refine (H2.out).mono ?_); rintro e w' ⟨rfl, rfl⟩))
  go_ret2
  exact ⟨rfl, rfl⟩
set_option maxHeartbeats 1000000 in
theorem exp_se (t : ByteArray) (S a k f : Nat) (r : Int) (q : List UInt8 × Nat) (w : World) (c0 : w.cell? ⟨S, 0, none⟩ = some (.string t)) (c1 : w.cell? ⟨S, 1, none⟩ = some (.int .i64 r)) (hl : t.size ≤ 100000) (ha : a ≤ t.size) (hk : sk t a = k) (hf : sk t (k + 1) = f) (hc : ch r t k = 101) (hs : pk t f = 43 ∨ pk t f = 45) (hr : rnF bDi bDi0 r t (f + 1) = q) (hq : q.1 = []) :
    Calls Tryz.prog 112 #[.pointer (some ⟨S, 0, none⟩), .int .i64 (a : Int)] w fun e w' => e = .returned (.tuple #[.string ⟨#[]⟩, .int .i64 (a : Int)]) ∧ Below w.heap.size w w' := by
  have hkl := lt_of_ch hc (by decide)
  have hfl : f ≤ t.size := by rw [← hf]; exact sk_le hkl
  have h1 := skip_any t S a w c0 hl (by omega)
  have h2 := char_any t S k r w c0 c1 hl (by omega)
  have h3 := skip_any t S (k + 1) w c0 hl (by omega)
  have h4 := peek_any t S f w c0 hl (by omega)
  rw [hk] at h1
  rw [hc] at h2
  rw [hf, show ((k + 1 : Nat) : Int) = (k : Int) + 1 by omega] at h3
  obtain ⟨p, hp⟩ : ∃ p, pk t f = p := ⟨_, rfl⟩
  have hfs : f < t.size := by
    rcases Nat.lt_or_ge f t.size with h | h
    · exact h
    · rw [pk_out h] at hs; omega
  have h5 := run_di t S (f + 1) r w c0 c1 hl hfs
  rw [show ((f + 1 : Nat) : Int) = (f : Int) + 1 by omega, hr] at h5
  rw [hp] at h4 hs
  have H1 := Lib.hid h1
  have H2 := Lib.hid h2
  have H3 := Lib.hid h3
  have H4 := Lib.hid h4
  have H5 := Lib.hid h5
  have hlen := rnF_len bDi bDi0 r t (f + 1)
  rw [hr] at hlen
  obtain ⟨ql, qe⟩ := q
  simp only at hq hlen
  clear h1 h2 h3 h4 h5 hp hc hk hf hr
  rcases hs with rfl | rfl
  all_goals
    subst hq
    go_enter Tryz.func112, Tryz.ntmps112
    go_wp2_with (first | (go_at_call 21; (with_reducible refine (H1.out).mono ?_); rintro e w' ⟨rfl, rfl⟩) | (go_at_call 45; (with_reducible refine (H2.out).mono ?_); rintro e w' ⟨rfl, rfl⟩) | (go_at_call 21; (with_reducible refine (H3.out).mono ?_); rintro e w' ⟨rfl, rfl⟩) | (go_at_call 38; (with_reducible refine (H4.out).mono ?_); rintro e w' ⟨rfl, rfl⟩) | (go_at_call 46; (with_reducible refine H5.out.mono ?_); rintro e w1 ⟨rfl, hb1⟩))
    go_ret2
    exact ⟨rfl, hb1⟩
set_option maxHeartbeats 1000000 in
theorem exp_sn (t : ByteArray) (S a k f : Nat) (r : Int) (q : List UInt8 × Nat) (w : World) (c0 : w.cell? ⟨S, 0, none⟩ = some (.string t)) (c1 : w.cell? ⟨S, 1, none⟩ = some (.int .i64 r)) (hl : t.size ≤ 100000) (ha : a ≤ t.size) (hk : sk t a = k) (hf : sk t (k + 1) = f) (hc : ch r t k = 101) (hs : pk t f = 43 ∨ pk t f = 45) (hr : rnF bDi bDi0 r t (f + 1) = q) (hq : q.1 ≠ []) :
    Calls Tryz.prog 112 #[.pointer (some ⟨S, 0, none⟩), .int .i64 (a : Int)] w fun e w' => e = .returned (.tuple #[.string ((⟨#[101]⟩ ++ t.extract f (f + 1)) ++ ⟨q.1.toArray⟩), .int .i64 (q.2 : Int)]) ∧ Below w.heap.size w w' := by
  have hkl := lt_of_ch hc (by decide)
  have hfl : f ≤ t.size := by rw [← hf]; exact sk_le hkl
  have h1 := skip_any t S a w c0 hl (by omega)
  have h2 := char_any t S k r w c0 c1 hl (by omega)
  have h3 := skip_any t S (k + 1) w c0 hl (by omega)
  have h4 := peek_any t S f w c0 hl (by omega)
  rw [hk] at h1
  rw [hc] at h2
  rw [hf, show ((k + 1 : Nat) : Int) = (k : Int) + 1 by omega] at h3
  obtain ⟨p, hp⟩ : ∃ p, pk t f = p := ⟨_, rfl⟩
  have hfs : f < t.size := by
    rcases Nat.lt_or_ge f t.size with h | h
    · exact h
    · rw [pk_out h] at hs; omega
  have h5 := run_di t S (f + 1) r w c0 c1 hl hfs
  rw [show ((f + 1 : Nat) : Int) = (f : Int) + 1 by omega, hr] at h5
  rw [hp] at h4 hs
  have H1 := Lib.hid h1
  have H2 := Lib.hid h2
  have H3 := Lib.hid h3
  have H4 := Lib.hid h4
  have H5 := Lib.hid h5
  have hlen := rnF_len bDi bDi0 r t (f + 1)
  rw [hr] at hlen
  obtain ⟨ql, qe⟩ := q
  simp only at hq hlen
  clear h1 h2 h3 h4 h5 hp hc hk hf hr
  rcases hs with rfl | rfl
  all_goals
    obtain ⟨x, xs, rfl⟩ : ∃ x xs, ql = x :: xs := by
      cases ql with
      | nil => exact absurd rfl hq
      | cons x xs => exact ⟨x, xs, rfl⟩
    have hxl : xs.length ≤ 100000 := by simp only [List.length_cons] at hlen; omega
    clear hq hlen
    go_enter Tryz.func112, Tryz.ntmps112
    go_wp2_with (first | (go_at_call 21; (with_reducible refine (H1.out).mono ?_); rintro e w' ⟨rfl, rfl⟩) | (go_at_call 45; (with_reducible refine (H2.out).mono ?_); rintro e w' ⟨rfl, rfl⟩) | (go_at_call 21; (with_reducible refine (H3.out).mono ?_); rintro e w' ⟨rfl, rfl⟩) | (go_at_call 38; (with_reducible refine (H4.out).mono ?_); rintro e w' ⟨rfl, rfl⟩) | (go_at_call 46; (with_reducible refine H5.out.mono ?_); rintro e w1 ⟨rfl, hb1⟩))
    go_ret2
    exact ⟨rfl, hb1⟩
set_option maxHeartbeats 1000000 in
theorem exp_ue (t : ByteArray) (S a k f : Nat) (r : Int) (q : List UInt8 × Nat) (w : World) (c0 : w.cell? ⟨S, 0, none⟩ = some (.string t)) (c1 : w.cell? ⟨S, 1, none⟩ = some (.int .i64 r)) (hl : t.size ≤ 100000) (ha : a ≤ t.size) (hk : sk t a = k) (hf : sk t (k + 1) = f) (hc : ch r t k = 101) (hs : ¬ (pk t f = 43 ∨ pk t f = 45)) (hr : rnF bDi bDi0 r t f = q) (hq : q.1 = []) :
    Calls Tryz.prog 112 #[.pointer (some ⟨S, 0, none⟩), .int .i64 (a : Int)] w fun e w' => e = .returned (.tuple #[.string ⟨#[]⟩, .int .i64 (a : Int)]) ∧ Below w.heap.size w w' := by
  have hkl := lt_of_ch hc (by decide)
  have hfl : f ≤ t.size := by rw [← hf]; exact sk_le hkl
  have h1 := skip_any t S a w c0 hl (by omega)
  have h2 := char_any t S k r w c0 c1 hl (by omega)
  have h3 := skip_any t S (k + 1) w c0 hl (by omega)
  have h4 := peek_any t S f w c0 hl (by omega)
  rw [hk] at h1
  rw [hc] at h2
  rw [hf, show ((k + 1 : Nat) : Int) = (k : Int) + 1 by omega] at h3
  obtain ⟨p, hp⟩ : ∃ p, pk t f = p := ⟨_, rfl⟩
  have h5 := run_di t S f r w c0 c1 hl hfl
  rw [hr] at h5
  rw [hp] at h4 hs
  have H1 := Lib.hid h1
  have H2 := Lib.hid h2
  have H3 := Lib.hid h3
  have H4 := Lib.hid h4
  have H5 := Lib.hid h5
  have hlen := rnF_len bDi bDi0 r t f
  rw [hr] at hlen
  obtain ⟨ql, qe⟩ := q
  simp only at hq hlen
  clear h1 h2 h3 h4 h5 hp hc hk hf hr
  have hs1 : (p == 43) = false := by rw [beq_eq_false_iff_ne]; omega
  have hs2 : (p == 45) = false := by rw [beq_eq_false_iff_ne]; omega
  clear hs
  all_goals
    subst hq
    go_enter Tryz.func112, Tryz.ntmps112
    go_wp2_with (first | (go_at_call 21; (with_reducible refine (H1.out).mono ?_); rintro e w' ⟨rfl, rfl⟩) | (go_at_call 45; (with_reducible refine (H2.out).mono ?_); rintro e w' ⟨rfl, rfl⟩) | (go_at_call 21; (with_reducible refine (H3.out).mono ?_); rintro e w' ⟨rfl, rfl⟩) | (go_at_call 38; (with_reducible refine (H4.out).mono ?_); rintro e w' ⟨rfl, rfl⟩) | (go_at_call 46; (with_reducible refine H5.out.mono ?_); rintro e w1 ⟨rfl, hb1⟩))
    go_ret2
    exact ⟨rfl, hb1⟩
set_option maxHeartbeats 1000000 in
theorem exp_un (t : ByteArray) (S a k f : Nat) (r : Int) (q : List UInt8 × Nat) (w : World) (c0 : w.cell? ⟨S, 0, none⟩ = some (.string t)) (c1 : w.cell? ⟨S, 1, none⟩ = some (.int .i64 r)) (hl : t.size ≤ 100000) (ha : a ≤ t.size) (hk : sk t a = k) (hf : sk t (k + 1) = f) (hc : ch r t k = 101) (hs : ¬ (pk t f = 43 ∨ pk t f = 45)) (hr : rnF bDi bDi0 r t f = q) (hq : q.1 ≠ []) :
    Calls Tryz.prog 112 #[.pointer (some ⟨S, 0, none⟩), .int .i64 (a : Int)] w fun e w' => e = .returned (.tuple #[.string (⟨#[101]⟩ ++ ⟨q.1.toArray⟩), .int .i64 (q.2 : Int)]) ∧ Below w.heap.size w w' := by
  have hkl := lt_of_ch hc (by decide)
  have hfl : f ≤ t.size := by rw [← hf]; exact sk_le hkl
  have h1 := skip_any t S a w c0 hl (by omega)
  have h2 := char_any t S k r w c0 c1 hl (by omega)
  have h3 := skip_any t S (k + 1) w c0 hl (by omega)
  have h4 := peek_any t S f w c0 hl (by omega)
  rw [hk] at h1
  rw [hc] at h2
  rw [hf, show ((k + 1 : Nat) : Int) = (k : Int) + 1 by omega] at h3
  obtain ⟨p, hp⟩ : ∃ p, pk t f = p := ⟨_, rfl⟩
  have h5 := run_di t S f r w c0 c1 hl hfl
  rw [hr] at h5
  rw [hp] at h4 hs
  have H1 := Lib.hid h1
  have H2 := Lib.hid h2
  have H3 := Lib.hid h3
  have H4 := Lib.hid h4
  have H5 := Lib.hid h5
  have hlen := rnF_len bDi bDi0 r t f
  rw [hr] at hlen
  obtain ⟨ql, qe⟩ := q
  simp only at hq hlen
  clear h1 h2 h3 h4 h5 hp hc hk hf hr
  have hs1 : (p == 43) = false := by rw [beq_eq_false_iff_ne]; omega
  have hs2 : (p == 45) = false := by rw [beq_eq_false_iff_ne]; omega
  clear hs
  all_goals
    obtain ⟨x, xs, rfl⟩ : ∃ x xs, ql = x :: xs := by
      cases ql with
      | nil => exact absurd rfl hq
      | cons x xs => exact ⟨x, xs, rfl⟩
    have hxl : xs.length ≤ 100000 := by simp only [List.length_cons] at hlen; omega
    clear hq hlen
    go_enter Tryz.func112, Tryz.ntmps112
    go_wp2_with (first | (go_at_call 21; (with_reducible refine (H1.out).mono ?_); rintro e w' ⟨rfl, rfl⟩) | (go_at_call 45; (with_reducible refine (H2.out).mono ?_); rintro e w' ⟨rfl, rfl⟩) | (go_at_call 21; (with_reducible refine (H3.out).mono ?_); rintro e w' ⟨rfl, rfl⟩) | (go_at_call 38; (with_reducible refine (H4.out).mono ?_); rintro e w' ⟨rfl, rfl⟩) | (go_at_call 46; (with_reducible refine H5.out.mono ?_); rintro e w1 ⟨rfl, hb1⟩))
    go_ret2
    exact ⟨rfl, hb1⟩
end Go.Proofs.YtbnldpcbdeeflaaGreatDoor
