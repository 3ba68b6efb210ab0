/- The reference's exponents, and how many letters and digits a number has. Condition: the scanner's cells hold the text and the regime. -/
import Derived.Test.YtbnldpcbdeeflaaGreatDoorRd
namespace Go.Proofs.YtbnldpcbdeeflaaGreatDoor
open Go.ChangeShapes Go.WideShapes Go.ChangeAt Go.RowKit

theorem exS_sk (r : Int) (t : ByteArray) (a m : Nat) (pre : ByteArray) : exS t a pre (rnF bDi bDi0 r t (sk t m)) = exS t a pre (rnF bDi bDi0 r t m) := by
  obtain ⟨h1, h2⟩ := rnF_sk bDi bDi0 r t m
  unfold exS
  by_cases h : (rnF bDi bDi0 r t m).1 = []
  · rw [if_pos h, if_pos (by rw [h1]; exact h)]
  · rw [if_neg h, if_neg (by rw [h1]; exact h), h1, h2 h]
set_option maxHeartbeats 1000000 in
theorem rexp_no1 (t : ByteArray) (S a : Nat) (r p : Int) (w : World) (c0 : w.cell? ⟨S, 0, none⟩ = some (.string t)) (hl : t.size ≤ 100000) (ha : a ≤ t.size) (hp : pk t (sk t a) = p) (hn : loA p ≠ 101) :
    Calls Tryz.prog 101 #[.pointer (some ⟨S, 0, none⟩), .int .i64 (a : Int)] w fun e w' => e = .returned (.tuple #[.string ⟨#[]⟩, .int .i64 (a : Int)]) ∧ w = w' := by
  have H1 := Lib.hid (behind_any t S a w c0 hl (by omega))
  have h2 := at_any t S (sk t a) w c0 hl (by have := sk_le ha; omega)
  have hb := pk_bd t (sk t a)
  rw [hp] at h2 hb
  have H2 := Lib.hid h2
  have H3 := Lib.hid (fun w => rb_lo p w hb.1 hb.2)
  obtain ⟨q, hq⟩ : ∃ q, loA p = q := ⟨_, rfl⟩
  rw [hq] at H3 hn
  have hn2 : (q != 101) = true := by rw [bne_iff_ne]; exact hn
  clear h2 hp hq hn
  go_enter Tryz.func101, Tryz.ntmps101
  go_wp2_with (first | (go_at_call 98; (with_reducible refine (H1.out).mono ?_); rintro e w' ⟨rfl, rfl⟩) | (go_at_call 60; (with_reducible refine (H2.out).mono ?_); rintro e w' ⟨rfl, rfl⟩) | (go_at_call 69; (with_reducible refine (H3.out _).mono ?_); rintro e w' ⟨rfl, rfl⟩))
  go_ret2
  exact ⟨rfl, rfl⟩
set_option maxHeartbeats 1000000 in
theorem rexp_no2 (t : ByteArray) (S a : Nat) (r p : Int) (w : World) (c0 : w.cell? ⟨S, 0, none⟩ = some (.string t)) (c2 : w.cell? ⟨S, 2, none⟩ = some (.int .i64 r)) (hl : t.size ≤ 100000) (ha : a ≤ t.size) (hp : pk t (sk t a) = p) (hn : loA p = 101) (hm : ltB r p = false) :
    Calls Tryz.prog 101 #[.pointer (some ⟨S, 0, none⟩), .int .i64 (a : Int)] w fun e w' => e = .returned (.tuple #[.string ⟨#[]⟩, .int .i64 (a : Int)]) ∧ w = w' := by
  have H1 := Lib.hid (behind_any t S a w c0 hl (by omega))
  have h2 := at_any t S (sk t a) w c0 hl (by have := sk_le ha; omega)
  have hb := pk_bd t (sk t a)
  rw [hp] at h2 hb
  have H2 := Lib.hid h2
  have h3 := fun w => rb_lo p w hb.1 hb.2
  have h4 := letter_any S r p w c2 hb.1 hb.2
  rw [hn] at h3
  rw [hm] at h4
  have H3 := Lib.hid h3
  have H4 := Lib.hid h4
  clear h2 hp hn hm h3 h4
  go_enter Tryz.func101, Tryz.ntmps101
  go_wp2_with (first | (go_at_call 98; (with_reducible refine (H1.out).mono ?_); rintro e w' ⟨rfl, rfl⟩) | (go_at_call 60; (with_reducible refine (H2.out).mono ?_); rintro e w' ⟨rfl, rfl⟩) | (go_at_call 69; (with_reducible refine (H3.out _).mono ?_); rintro e w' ⟨rfl, rfl⟩) | (go_at_call 62; (with_reducible refine (H4.out).mono ?_); rintro e w' ⟨rfl, rfl⟩))
  go_ret2
  exact ⟨rfl, rfl⟩
set_option maxHeartbeats 1000000 in
theorem rexp_se (t : ByteArray) (S a k f : Nat) (r : Int) (q : List UInt8 × Nat) (w : World) (c0 : w.cell? ⟨S, 0, none⟩ = some (.string t)) (c2 : w.cell? ⟨S, 2, none⟩ = some (.int .i64 r)) (hl : t.size ≤ 100000) (ha : a ≤ t.size) (hk : sk t a = k) (hf : sk t (k + 1) = f) (hlo : loA (pk t k) = 101) (hlt : ltB r (pk t k) = true) (hs : pk t f = 43 ∨ pk t f = 45) (g : Nat) (hg : sk t (f + 1) = g) (hr : rnF bDi bDi0 r t g = q) (hq : q.1 = []) :
    Calls Tryz.prog 101 #[.pointer (some ⟨S, 0, none⟩), .int .i64 (a : Int)] w fun e w' => e = .returned (.tuple #[.string ⟨#[]⟩, .int .i64 (a : Int)]) ∧ w = w' := by
  have hc : ch r t k = 101 := by show chB r (pk t k) = 101; rw [lo_ch hlt]; exact hlo
  have hkl := lt_of_ch hc (by decide)
  have hfl : f ≤ t.size := by rw [← hf]; exact sk_le hkl
  have h1 := behind_any t S a w c0 hl (by omega)
  have h2 := at_any t S k w c0 hl (by omega)
  have h3 := behind_any t S (k + 1) w c0 hl (by omega)
  have h4 := at_any t S f w c0 hl (by omega)
  have hkb := pk_bd t k
  have h6 := fun w => rb_lo (pk t k) w hkb.1 hkb.2
  have h7 := letter_any S r (pk t k) w c2 hkb.1 hkb.2
  rw [hlo] at h6
  rw [hlt] at h7
  obtain ⟨p0, hp0⟩ : ∃ p, pk t k = p := ⟨_, rfl⟩
  rw [hp0] at h2 h6 h7
  rw [hk] at h1
  rw [hf, show ((k + 1 : Nat) : Int) = (k : Int) + 1 by omega] at h3
  obtain ⟨p, hp⟩ : ∃ p, pk t f = p := ⟨_, rfl⟩
  have hfs : f < t.size := by
    rcases hs with h | h
    · exact pk_lt h (by decide)
    · exact pk_lt h (by decide)
  have hgl : g ≤ t.size := by rw [← hg]; exact sk_le hfs
  have h8 := behind_any t S (f + 1) w c0 hl (by omega)
  rw [show ((f + 1 : Nat) : Int) = (f : Int) + 1 by omega, hg] at h8
  have h5 := rdig_any t S g r w c0 hl hgl (by rw [← hg]; exact sk_sk t _)
  rw [hr] at h5
  have H8 := Lib.hid h8
  clear h8
  rw [hp] at h4 hs
  have H1 := Lib.hid h1
  have H2 := Lib.hid h2
  have H3 := Lib.hid h3
  have H4 := Lib.hid h4
  have H5 := Lib.hid h5
  have H6 := Lib.hid h6
  have H7 := Lib.hid h7
  have hlen := rnF_len bDi bDi0 r t g
  rw [hr] at hlen
  obtain ⟨ql, qe⟩ := q
  simp only at hq hlen
  clear h1 h2 h3 h4 h5 h6 h7 hp hp0 hc hk hf hr hlo hlt hkb hg
  rcases hs with rfl | rfl
  all_goals
    subst hq
    go_enter Tryz.func101, Tryz.ntmps101
    go_wp2_with (first | (go_at_call 98; (with_reducible refine (H1.out).mono ?_); rintro e w' ⟨rfl, rfl⟩) | (go_at_call 60; (with_reducible refine (H2.out).mono ?_); rintro e w' ⟨rfl, rfl⟩) | (go_at_call 98; (with_reducible refine (H3.out).mono ?_); rintro e w' ⟨rfl, rfl⟩) | (go_at_call 60; (with_reducible refine (H4.out).mono ?_); rintro e w' ⟨rfl, rfl⟩) | (go_at_call 69; (with_reducible refine (H6.out _).mono ?_); rintro e w' ⟨rfl, rfl⟩) | (go_at_call 62; (with_reducible refine (H7.out).mono ?_); rintro e w' ⟨rfl, rfl⟩) | (go_at_call 98; (with_reducible refine (H8.out).mono ?_); rintro e w' ⟨rfl, rfl⟩) | (go_at_call 97; (with_reducible refine (H5.out).mono ?_); rintro e w' ⟨rfl, rfl⟩))
    go_ret2
    exact ⟨rfl, rfl⟩
set_option maxHeartbeats 1000000 in
theorem rexp_sn (t : ByteArray) (S a k f : Nat) (r : Int) (q : List UInt8 × Nat) (w : World) (c0 : w.cell? ⟨S, 0, none⟩ = some (.string t)) (c2 : w.cell? ⟨S, 2, none⟩ = some (.int .i64 r)) (hl : t.size ≤ 100000) (ha : a ≤ t.size) (hk : sk t a = k) (hf : sk t (k + 1) = f) (hlo : loA (pk t k) = 101) (hlt : ltB r (pk t k) = true) (hs : pk t f = 43 ∨ pk t f = 45) (g : Nat) (hg : sk t (f + 1) = g) (hr : rnF bDi bDi0 r t g = q) (hq : q.1 ≠ []) :
    Calls Tryz.prog 101 #[.pointer (some ⟨S, 0, none⟩), .int .i64 (a : Int)] w fun e w' => e = .returned (.tuple #[.string ((⟨#[101]⟩ ++ t.extract f (f + 1)) ++ ⟨q.1.toArray⟩), .int .i64 (q.2 : Int)]) ∧ w = w' := by
  have hc : ch r t k = 101 := by show chB r (pk t k) = 101; rw [lo_ch hlt]; exact hlo
  have hkl := lt_of_ch hc (by decide)
  have hfl : f ≤ t.size := by rw [← hf]; exact sk_le hkl
  have h1 := behind_any t S a w c0 hl (by omega)
  have h2 := at_any t S k w c0 hl (by omega)
  have h3 := behind_any t S (k + 1) w c0 hl (by omega)
  have h4 := at_any t S f w c0 hl (by omega)
  have hkb := pk_bd t k
  have h6 := fun w => rb_lo (pk t k) w hkb.1 hkb.2
  have h7 := letter_any S r (pk t k) w c2 hkb.1 hkb.2
  rw [hlo] at h6
  rw [hlt] at h7
  obtain ⟨p0, hp0⟩ : ∃ p, pk t k = p := ⟨_, rfl⟩
  rw [hp0] at h2 h6 h7
  rw [hk] at h1
  rw [hf, show ((k + 1 : Nat) : Int) = (k : Int) + 1 by omega] at h3
  obtain ⟨p, hp⟩ : ∃ p, pk t f = p := ⟨_, rfl⟩
  have hfs : f < t.size := by
    rcases hs with h | h
    · exact pk_lt h (by decide)
    · exact pk_lt h (by decide)
  have hgl : g ≤ t.size := by rw [← hg]; exact sk_le hfs
  have h8 := behind_any t S (f + 1) w c0 hl (by omega)
  rw [show ((f + 1 : Nat) : Int) = (f : Int) + 1 by omega, hg] at h8
  have h5 := rdig_any t S g r w c0 hl hgl (by rw [← hg]; exact sk_sk t _)
  rw [hr] at h5
  have H8 := Lib.hid h8
  clear h8
  rw [hp] at h4 hs
  have H1 := Lib.hid h1
  have H2 := Lib.hid h2
  have H3 := Lib.hid h3
  have H4 := Lib.hid h4
  have H5 := Lib.hid h5
  have H6 := Lib.hid h6
  have H7 := Lib.hid h7
  have hlen := rnF_len bDi bDi0 r t g
  rw [hr] at hlen
  obtain ⟨ql, qe⟩ := q
  simp only at hq hlen
  clear h1 h2 h3 h4 h5 h6 h7 hp hp0 hc hk hf hr hlo hlt hkb hg
  rcases hs with rfl | rfl
  all_goals
    obtain ⟨x, xs, rfl⟩ : ∃ x xs, ql = x :: xs := by
      cases ql with
      | nil => exact absurd rfl hq
      | cons x xs => exact ⟨x, xs, rfl⟩
    have hxl : xs.length ≤ 100000 := by simp only [List.length_cons] at hlen; omega
    clear hq hlen
    go_enter Tryz.func101, Tryz.ntmps101
    go_wp2_with (first | (go_at_call 98; (with_reducible refine (H1.out).mono ?_); rintro e w' ⟨rfl, rfl⟩) | (go_at_call 60; (with_reducible refine (H2.out).mono ?_); rintro e w' ⟨rfl, rfl⟩) | (go_at_call 98; (with_reducible refine (H3.out).mono ?_); rintro e w' ⟨rfl, rfl⟩) | (go_at_call 60; (with_reducible refine (H4.out).mono ?_); rintro e w' ⟨rfl, rfl⟩) | (go_at_call 69; (with_reducible refine (H6.out _).mono ?_); rintro e w' ⟨rfl, rfl⟩) | (go_at_call 62; (with_reducible refine (H7.out).mono ?_); rintro e w' ⟨rfl, rfl⟩) | (go_at_call 98; (with_reducible refine (H8.out).mono ?_); rintro e w' ⟨rfl, rfl⟩) | (go_at_call 97; (with_reducible refine (H5.out).mono ?_); rintro e w' ⟨rfl, rfl⟩))
    go_ret2
    exact ⟨rfl, rfl⟩
set_option maxHeartbeats 1000000 in
theorem rexp_ue (t : ByteArray) (S a k f : Nat) (r : Int) (q : List UInt8 × Nat) (w : World) (c0 : w.cell? ⟨S, 0, none⟩ = some (.string t)) (c2 : w.cell? ⟨S, 2, none⟩ = some (.int .i64 r)) (hl : t.size ≤ 100000) (ha : a ≤ t.size) (hk : sk t a = k) (hf : sk t (k + 1) = f) (hlo : loA (pk t k) = 101) (hlt : ltB r (pk t k) = true) (hs : ¬ (pk t f = 43 ∨ pk t f = 45)) (hr : rnF bDi bDi0 r t f = q) (hq : q.1 = []) :
    Calls Tryz.prog 101 #[.pointer (some ⟨S, 0, none⟩), .int .i64 (a : Int)] w fun e w' => e = .returned (.tuple #[.string ⟨#[]⟩, .int .i64 (a : Int)]) ∧ w = w' := by
  have hc : ch r t k = 101 := by show chB r (pk t k) = 101; rw [lo_ch hlt]; exact hlo
  have hkl := lt_of_ch hc (by decide)
  have hfl : f ≤ t.size := by rw [← hf]; exact sk_le hkl
  have h1 := behind_any t S a w c0 hl (by omega)
  have h2 := at_any t S k w c0 hl (by omega)
  have h3 := behind_any t S (k + 1) w c0 hl (by omega)
  have h4 := at_any t S f w c0 hl (by omega)
  have hkb := pk_bd t k
  have h6 := fun w => rb_lo (pk t k) w hkb.1 hkb.2
  have h7 := letter_any S r (pk t k) w c2 hkb.1 hkb.2
  rw [hlo] at h6
  rw [hlt] at h7
  obtain ⟨p0, hp0⟩ : ∃ p, pk t k = p := ⟨_, rfl⟩
  rw [hp0] at h2 h6 h7
  rw [hk] at h1
  rw [hf, show ((k + 1 : Nat) : Int) = (k : Int) + 1 by omega] at h3
  obtain ⟨p, hp⟩ : ∃ p, pk t f = p := ⟨_, rfl⟩
  have h5 := rdig_any t S f r w c0 hl hfl (by rw [← hf]; exact sk_sk t _)
  rw [hr] at h5
  rw [hp] at h4 hs
  have H1 := Lib.hid h1
  have H2 := Lib.hid h2
  have H3 := Lib.hid h3
  have H4 := Lib.hid h4
  have H5 := Lib.hid h5
  have H6 := Lib.hid h6
  have H7 := Lib.hid h7
  have hlen := rnF_len bDi bDi0 r t f
  rw [hr] at hlen
  obtain ⟨ql, qe⟩ := q
  simp only at hq hlen
  clear h1 h2 h3 h4 h5 h6 h7 hp hp0 hc hk hf hr hlo hlt hkb
  have hs1 : (p == 43) = false := by rw [beq_eq_false_iff_ne]; omega
  have hs2 : (p == 45) = false := by rw [beq_eq_false_iff_ne]; omega
  clear hs
  all_goals
    subst hq
    go_enter Tryz.func101, Tryz.ntmps101
    go_wp2_with (first | (go_at_call 98; (with_reducible refine (H1.out).mono ?_); rintro e w' ⟨rfl, rfl⟩) | (go_at_call 60; (with_reducible refine (H2.out).mono ?_); rintro e w' ⟨rfl, rfl⟩) | (go_at_call 98; (with_reducible refine (H3.out).mono ?_); rintro e w' ⟨rfl, rfl⟩) | (go_at_call 60; (with_reducible refine (H4.out).mono ?_); rintro e w' ⟨rfl, rfl⟩) | (go_at_call 69; (with_reducible refine (H6.out _).mono ?_); rintro e w' ⟨rfl, rfl⟩) | (go_at_call 62; (with_reducible refine (H7.out).mono ?_); rintro e w' ⟨rfl, rfl⟩) | (go_at_call 97; (with_reducible refine (H5.out).mono ?_); rintro e w' ⟨rfl, rfl⟩))
    go_ret2
    exact ⟨rfl, rfl⟩
set_option maxHeartbeats 1000000 in
theorem rexp_un (t : ByteArray) (S a k f : Nat) (r : Int) (q : List UInt8 × Nat) (w : World) (c0 : w.cell? ⟨S, 0, none⟩ = some (.string t)) (c2 : w.cell? ⟨S, 2, none⟩ = some (.int .i64 r)) (hl : t.size ≤ 100000) (ha : a ≤ t.size) (hk : sk t a = k) (hf : sk t (k + 1) = f) (hlo : loA (pk t k) = 101) (hlt : ltB r (pk t k) = true) (hs : ¬ (pk t f = 43 ∨ pk t f = 45)) (hr : rnF bDi bDi0 r t f = q) (hq : q.1 ≠ []) :
    Calls Tryz.prog 101 #[.pointer (some ⟨S, 0, none⟩), .int .i64 (a : Int)] w fun e w' => e = .returned (.tuple #[.string (⟨#[101]⟩ ++ ⟨q.1.toArray⟩), .int .i64 (q.2 : Int)]) ∧ w = w' := by
  have hc : ch r t k = 101 := by show chB r (pk t k) = 101; rw [lo_ch hlt]; exact hlo
  have hkl := lt_of_ch hc (by decide)
  have hfl : f ≤ t.size := by rw [← hf]; exact sk_le hkl
  have h1 := behind_any t S a w c0 hl (by omega)
  have h2 := at_any t S k w c0 hl (by omega)
  have h3 := behind_any t S (k + 1) w c0 hl (by omega)
  have h4 := at_any t S f w c0 hl (by omega)
  have hkb := pk_bd t k
  have h6 := fun w => rb_lo (pk t k) w hkb.1 hkb.2
  have h7 := letter_any S r (pk t k) w c2 hkb.1 hkb.2
  rw [hlo] at h6
  rw [hlt] at h7
  obtain ⟨p0, hp0⟩ : ∃ p, pk t k = p := ⟨_, rfl⟩
  rw [hp0] at h2 h6 h7
  rw [hk] at h1
  rw [hf, show ((k + 1 : Nat) : Int) = (k : Int) + 1 by omega] at h3
  obtain ⟨p, hp⟩ : ∃ p, pk t f = p := ⟨_, rfl⟩
  have h5 := rdig_any t S f r w c0 hl hfl (by rw [← hf]; exact sk_sk t _)
  rw [hr] at h5
  rw [hp] at h4 hs
  have H1 := Lib.hid h1
  have H2 := Lib.hid h2
  have H3 := Lib.hid h3
  have H4 := Lib.hid h4
  have H5 := Lib.hid h5
  have H6 := Lib.hid h6
  have H7 := Lib.hid h7
  have hlen := rnF_len bDi bDi0 r t f
  rw [hr] at hlen
  obtain ⟨ql, qe⟩ := q
  simp only at hq hlen
  clear h1 h2 h3 h4 h5 h6 h7 hp hp0 hc hk hf hr hlo hlt hkb
  have hs1 : (p == 43) = false := by rw [beq_eq_false_iff_ne]; omega
  have hs2 : (p == 45) = false := by rw [beq_eq_false_iff_ne]; omega
  clear hs
  all_goals
    obtain ⟨x, xs, rfl⟩ : ∃ x xs, ql = x :: xs := by
      cases ql with
      | nil => exact absurd rfl hq
      | cons x xs => exact ⟨x, xs, rfl⟩
    have hxl : xs.length ≤ 100000 := by simp only [List.length_cons] at hlen; omega
    clear hq hlen
    go_enter Tryz.func101, Tryz.ntmps101
    go_wp2_with (first | (go_at_call 98; (with_reducible refine (H1.out).mono ?_); rintro e w' ⟨rfl, rfl⟩) | (go_at_call 60; (with_reducible refine (H2.out).mono ?_); rintro e w' ⟨rfl, rfl⟩) | (go_at_call 98; (with_reducible refine (H3.out).mono ?_); rintro e w' ⟨rfl, rfl⟩) | (go_at_call 60; (with_reducible refine (H4.out).mono ?_); rintro e w' ⟨rfl, rfl⟩) | (go_at_call 69; (with_reducible refine (H6.out _).mono ?_); rintro e w' ⟨rfl, rfl⟩) | (go_at_call 62; (with_reducible refine (H7.out).mono ?_); rintro e w' ⟨rfl, rfl⟩) | (go_at_call 97; (with_reducible refine (H5.out).mono ?_); rintro e w' ⟨rfl, rfl⟩))
    go_ret2
    exact ⟨rfl, rfl⟩
theorem rexp_any (t : ByteArray) (S a : Nat) (r : Int) (w : World) (c0 : w.cell? ⟨S, 0, none⟩ = some (.string t)) (c2 : w.cell? ⟨S, 2, none⟩ = some (.int .i64 r)) (hl : t.size ≤ 100000) (ha : a ≤ t.size) :
    Calls Tryz.prog 101 #[.pointer (some ⟨S, 0, none⟩), .int .i64 (a : Int)] w fun e w' => e = .returned (.tuple #[.string (exF r t a).1, .int .i64 ((exF r t a).2 : Int)]) ∧ w = w' := by
  unfold exF
  cases hlt : ltB r (pk t (sk t a))
  · have hc : ch r t (sk t a) ≠ 101 := by
      intro h
      have := no_ch hlt
      rw [show chB r (pk t (sk t a)) = 101 from h] at this
      cases this
    rw [if_neg hc]
    by_cases hlo : loA (pk t (sk t a)) = 101
    · exact rexp_no2 t S a r _ w c0 c2 hl ha rfl hlo hlt
    · exact rexp_no1 t S a r _ w c0 hl ha rfl hlo
  · have hcl : ch r t (sk t a) = loA (pk t (sk t a)) := lo_ch hlt
    by_cases hlo : loA (pk t (sk t a)) = 101
    · rw [if_pos (by rw [hcl]; exact hlo)]
      by_cases hs : pk t (sk t (sk t a + 1)) = 43 ∨ pk t (sk t (sk t a + 1)) = 45
      · rw [if_pos hs, ← exS_sk]
        unfold exS
        by_cases hq : (rnF bDi bDi0 r t (sk t (sk t (sk t a + 1) + 1))).1 = []
        · rw [if_pos hq]; exact rexp_se t S a _ _ r _ w c0 c2 hl ha rfl rfl hlo hlt hs _ rfl rfl hq
        · rw [if_neg hq]; exact rexp_sn t S a _ _ r _ w c0 c2 hl ha rfl rfl hlo hlt hs _ rfl rfl hq
      · rw [if_neg hs]
        unfold exS
        by_cases hq : (rnF bDi bDi0 r t (sk t (sk t a + 1))).1 = []
        · rw [if_pos hq]; exact rexp_ue t S a _ _ r _ w c0 c2 hl ha rfl rfl hlo hlt hs rfl hq
        · rw [if_neg hq]; exact rexp_un t S a _ _ r _ w c0 c2 hl ha rfl rfl hlo hlt hs rfl hq
    · rw [if_neg (by rw [hcl]; exact hlo)]
      exact rexp_no1 t S a r _ w c0 hl ha rfl hlo
set_option maxHeartbeats 1000000 in
theorem rsize_any (t : ByteArray) (w : World) (hl : t.size ≤ 1000000) : Calls Tryz.prog 102 #[.string t] w fun e w' => e = .returned (.int .i64 (lc t 0 : Int)) ∧ w = w' := by
  have HL := Lib.hid hl
  clear hl
  go_enter Tryz.func102, Tryz.ntmps102
  go_wp2
  go_loop [3, 4] (fun v3 v7 => ∃ i n : Nat, i ≤ t.size ∧ n ≤ i ∧ n + lc t i = lc t 0 ∧ v3 = .int .i64 n ∧ v7 = .int .i64 i) (fun _ v7 => t.size - (intOf v7).toNat)
  case atStart => exact ⟨0, 0, Nat.zero_le _, Nat.le_refl _, Nat.zero_add _, rfl, rfl⟩
  case round =>
    obtain ⟨i, n, h1, h2, h3, rfl, rfl⟩ := hrel
    have H3 := Lib.hid h3
    have hl := HL.out
    clear h3
    rcases Nat.lt_or_ge i t.size with hi | hi
    · have hp := pk_bd t i
      have hpi := (pk_in hi).symm
      obtain ⟨p, hpe⟩ : ∃ p, pk t i = p := ⟨_, rfl⟩
      have HE := Lib.hid hpe
      rw [hpe] at hp hpi
      have HB := Lib.hid (fun w => rb_sm p w hp.1 hp.2)
      have HD := Lib.hid (fun w => rb_di p w hp.1 hp.2)
      have HI := Lib.hid hi
      have hiz : decide ((i : Int) < (t.size : Int)) = true := decide_eq_true (by omega)
      clear hpe
      rcases Bool.eq_false_or_eq_true (bDi p) with hd | hd <;> rcases Bool.eq_false_or_eq_true (bSm p) with hb | hb
      · rw [hb] at HB
        rw [hd] at HD
        have HN := Lib.hid (show n + 1 + lc t (i + 1) = lc t 0 by rw [← H3.out, lc_yes HI.out (by rw [HE.out]; unfold bSd; rw [hb, hd]; rfl)]; omega)
        clear hb hd
        go_wp2_with (first | (go_at_call 59; (with_reducible refine (HD.out _).mono ?_); rintro e w' ⟨rfl, rfl⟩) | (go_at_call 93; (with_reducible refine (HB.out _).mono ?_); rintro e w' ⟨rfl, rfl⟩))
        go_round
        case rel => exact ⟨i + 1, n + 1, by omega, by omega, HN.out, by go_num, by go_num⟩
        case measure => have := HI.out; simp [intOf]; omega
      · rw [hb] at HB
        rw [hd] at HD
        have HN := Lib.hid (show n + 1 + lc t (i + 1) = lc t 0 by rw [← H3.out, lc_yes HI.out (by rw [HE.out]; unfold bSd; rw [hb, hd]; rfl)]; omega)
        clear hb hd
        go_wp2_with (first | (go_at_call 59; (with_reducible refine (HD.out _).mono ?_); rintro e w' ⟨rfl, rfl⟩) | (go_at_call 93; (with_reducible refine (HB.out _).mono ?_); rintro e w' ⟨rfl, rfl⟩))
        go_round
        case rel => exact ⟨i + 1, n + 1, by omega, by omega, HN.out, by go_num, by go_num⟩
        case measure => have := HI.out; simp [intOf]; omega
      · rw [hb] at HB
        rw [hd] at HD
        have HN := Lib.hid (show n + 1 + lc t (i + 1) = lc t 0 by rw [← H3.out, lc_yes HI.out (by rw [HE.out]; unfold bSd; rw [hb, hd]; rfl)]; omega)
        clear hb hd
        go_wp2_with (first | (go_at_call 59; (with_reducible refine (HD.out _).mono ?_); rintro e w' ⟨rfl, rfl⟩) | (go_at_call 93; (with_reducible refine (HB.out _).mono ?_); rintro e w' ⟨rfl, rfl⟩))
        go_round
        case rel => exact ⟨i + 1, n + 1, by omega, by omega, HN.out, by go_num, by go_num⟩
        case measure => have := HI.out; simp [intOf]; omega
      · rw [hb] at HB
        rw [hd] at HD
        have HN := Lib.hid (show n +  lc t (i + 1) = lc t 0 by rw [← H3.out, lc_no HI.out (by rw [HE.out]; unfold bSd; rw [hb, hd]; rfl)])
        clear hb hd
        go_wp2_with (first | (go_at_call 59; (with_reducible refine (HD.out _).mono ?_); rintro e w' ⟨rfl, rfl⟩) | (go_at_call 93; (with_reducible refine (HB.out _).mono ?_); rintro e w' ⟨rfl, rfl⟩))
        go_round
        case rel => exact ⟨i + 1, n, by omega, by omega, HN.out, rfl, by go_num⟩
        case measure => have := HI.out; simp [intOf]; omega
    · have HN := Lib.hid (show lc t 0 = n by rw [← H3.out, lc_out hi, Nat.add_zero])
      have hiz : decide ((i : Int) < (t.size : Int)) = false := decide_eq_false (by omega)
      go_wp2
      go_returns
      rw [HN.out]
      exact ⟨rfl, rfl⟩
end Go.Proofs.YtbnldpcbdeeflaaGreatDoor
