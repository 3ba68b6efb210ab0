/- Whether a number with an r is one. Condition: the library's MaxLen holds a number. -/
import Derived.Test.YtbnldpcbdeeflaaGreatDoorLn
import Derived.Test.YtbnldpcbdeeflaaGreatDoorQu
import Derived.Test.YtbnldpcbdeeflaaGreatDoorShelf
import Derived.Shelf.Strings.SlTrimAscii
namespace Go.Proofs.YtbnldpcbdeeflaaGreatDoor
open Go.ChangeShapes Go.WideShapes Go.ChangeAt Go.RowKit

theorem index_r (dl : List UInt8) : ∀ ql : List UInt8, (∀ c ∈ ql, c ≠ 114) → Lib.index (ql ++ 114 :: dl) [114] = (ql.length : Int)
  | [], _ => by simp [Lib.index, List.isPrefixOf]
  | c :: l, h => by
    have ih := index_r dl l (fun x hx => h x (List.mem_cons_of_mem _ hx))
    have hc : c ≠ 114 := h c (List.mem_cons_self ..)
    have hp : ([114] : List UInt8).isPrefixOf (c :: (l ++ 114 :: dl)) = false := by simp [List.isPrefixOf, Ne.symm hc]
    rw [List.cons_append, Lib.index, hp, ih, if_neg (by decide), if_neg (by rw [beq_iff_eq]; omega), List.length_cons]
    omega
theorem cut_r (ql dl : List UInt8) (h : ∀ c ∈ ql, c ≠ 114) : Lib.cut (ql ++ 114 :: dl) [114] = (ql, dl, true) := by
  unfold Lib.cut
  rw [index_r dl ql h, if_pos (by omega)]
  simp
/-- The digits that a radix has not. -/
def ovF (ql : List UInt8) : Option (List UInt8) := if ql = [50] then some [50, 51, 52, 53, 54, 55, 56, 57, 97, 98, 99, 100, 101, 102] else if ql = [52] then some [52, 53, 54, 55, 56, 57, 97, 98, 99, 100, 101, 102] else if ql = [56] then some [56, 57, 97, 98, 99, 100, 101, 102] else if ql = [49, 54] then some [] else none
/-- Whether a radix and digits are those of bits. -/
def abF (ql dl : List UInt8) : Bool := match ovF ql with
  | none => false
  | some o => !Lib.containsAny dl o
theorem below_dn (w : World) (n : Nat) : Below w.heap.size w (w.drewN n) := ⟨rfl, rfl, rfl, Nat.le_refl _, fun _ _ => rfl⟩
theorem asc_of {l : List UInt8} (h : ∀ c ∈ l, c.toNat < 128) : ∀ (j : Nat) b, (⟨l.toArray⟩ : ByteArray).data.toList[j]? = some b → b.toNat < 128 := fun j b hb => h b (List.mem_of_getElem? hb)
set_option maxHeartbeats 1000000 in
theorem ar_2 (s : ByteArray) (ql dl : List UInt8) (w : World) (hs : s.data.toList = ql ++ 114 :: dl) (hz : s.size ≤ 1000000) (hdz : dl.length ≤ 1000000) (hq : ∀ c ∈ ql, c ≠ 114) (hd : ∀ c ∈ dl, c.toNat < 128) (hM : Mx w) (hl : ql = [50]) :
    Calls Tryz.prog 83 #[.string s] w fun e w' => e = .returned (.bool (!Lib.containsAny dl [50, 51, 52, 53, 54, 55, 56, 57, 97, 98, 99, 100, 101, 102])) ∧ Below w.heap.size w w' := by
  obtain ⟨m, hm⟩ := hM
  have h1 := Tryz.strings_Cut s ⟨#[114]⟩ m w (by omega) hm
  rw [hs, show (⟨#[114]⟩ : ByteArray).data.toList = [114] from rfl, cut_r ql dl hq, hl] at h1
  have HA := Lib.hid (asc_of hd)
  have HZ : Hid ((⟨dl.toArray⟩ : ByteArray).size ≤ 1000000) := Lib.hid hdz
  have H2 := Lib.hid (fun W => Tryz.strings_ContainsAny_laid ⟨dl.toArray⟩ ⟨#[50, 51, 52, 53, 54, 55, 56, 57, 97, 98, 99, 100, 101, 102]⟩ W (by have := HZ.out; omega) (by decide) HA.out (asc_of (l := [50, 51, 52, 53, 54, 55, 56, 57, 97, 98, 99, 100, 101, 102]) (by decide)))
  have H1 := Lib.hid h1
  clear h1 hs hq hd hl hm
  go_enter Tryz.func83, Tryz.ntmps83
  go_wp2_with (first | (go_at_call 113; (with_reducible refine H1.out.mono ?_); rintro e w1 ⟨rfl, n, rfl⟩) | (go_at_call 114; (with_reducible refine (H2.out _).mono ?_); rintro e w2 ⟨rfl, k2⟩))
  go_returns
  exact ⟨rfl, Below.call (below_dn w n) (Nat.le_refl _) k2⟩
set_option maxHeartbeats 1000000 in
theorem ar_4 (s : ByteArray) (ql dl : List UInt8) (w : World) (hs : s.data.toList = ql ++ 114 :: dl) (hz : s.size ≤ 1000000) (hdz : dl.length ≤ 1000000) (hq : ∀ c ∈ ql, c ≠ 114) (hd : ∀ c ∈ dl, c.toNat < 128) (hM : Mx w) (hl : ql = [52]) :
    Calls Tryz.prog 83 #[.string s] w fun e w' => e = .returned (.bool (!Lib.containsAny dl [52, 53, 54, 55, 56, 57, 97, 98, 99, 100, 101, 102])) ∧ Below w.heap.size w w' := by
  obtain ⟨m, hm⟩ := hM
  have h1 := Tryz.strings_Cut s ⟨#[114]⟩ m w (by omega) hm
  rw [hs, show (⟨#[114]⟩ : ByteArray).data.toList = [114] from rfl, cut_r ql dl hq, hl] at h1
  have HA := Lib.hid (asc_of hd)
  have HZ : Hid ((⟨dl.toArray⟩ : ByteArray).size ≤ 1000000) := Lib.hid hdz
  have H2 := Lib.hid (fun W => Tryz.strings_ContainsAny_laid ⟨dl.toArray⟩ ⟨#[52, 53, 54, 55, 56, 57, 97, 98, 99, 100, 101, 102]⟩ W (by have := HZ.out; omega) (by decide) HA.out (asc_of (l := [52, 53, 54, 55, 56, 57, 97, 98, 99, 100, 101, 102]) (by decide)))
  have H1 := Lib.hid h1
  clear h1 hs hq hd hl hm
  go_enter Tryz.func83, Tryz.ntmps83
  go_wp2_with (first | (go_at_call 113; (with_reducible refine H1.out.mono ?_); rintro e w1 ⟨rfl, n, rfl⟩) | (go_at_call 114; (with_reducible refine (H2.out _).mono ?_); rintro e w2 ⟨rfl, k2⟩))
  go_returns
  exact ⟨rfl, Below.call (below_dn w n) (Nat.le_refl _) k2⟩
set_option maxHeartbeats 1000000 in
theorem ar_8 (s : ByteArray) (ql dl : List UInt8) (w : World) (hs : s.data.toList = ql ++ 114 :: dl) (hz : s.size ≤ 1000000) (hdz : dl.length ≤ 1000000) (hq : ∀ c ∈ ql, c ≠ 114) (hd : ∀ c ∈ dl, c.toNat < 128) (hM : Mx w) (hl : ql = [56]) :
    Calls Tryz.prog 83 #[.string s] w fun e w' => e = .returned (.bool (!Lib.containsAny dl [56, 57, 97, 98, 99, 100, 101, 102])) ∧ Below w.heap.size w w' := by
  obtain ⟨m, hm⟩ := hM
  have h1 := Tryz.strings_Cut s ⟨#[114]⟩ m w (by omega) hm
  rw [hs, show (⟨#[114]⟩ : ByteArray).data.toList = [114] from rfl, cut_r ql dl hq, hl] at h1
  have HA := Lib.hid (asc_of hd)
  have HZ : Hid ((⟨dl.toArray⟩ : ByteArray).size ≤ 1000000) := Lib.hid hdz
  have H2 := Lib.hid (fun W => Tryz.strings_ContainsAny_laid ⟨dl.toArray⟩ ⟨#[56, 57, 97, 98, 99, 100, 101, 102]⟩ W (by have := HZ.out; omega) (by decide) HA.out (asc_of (l := [56, 57, 97, 98, 99, 100, 101, 102]) (by decide)))
  have H1 := Lib.hid h1
  clear h1 hs hq hd hl hm
  go_enter Tryz.func83, Tryz.ntmps83
  go_wp2_with (first | (go_at_call 113; (with_reducible refine H1.out.mono ?_); rintro e w1 ⟨rfl, n, rfl⟩) | (go_at_call 114; (with_reducible refine (H2.out _).mono ?_); rintro e w2 ⟨rfl, k2⟩))
  go_returns
  exact ⟨rfl, Below.call (below_dn w n) (Nat.le_refl _) k2⟩
set_option maxHeartbeats 1000000 in
theorem ar_16 (s : ByteArray) (ql dl : List UInt8) (w : World) (hs : s.data.toList = ql ++ 114 :: dl) (hz : s.size ≤ 1000000) (hdz : dl.length ≤ 1000000) (hq : ∀ c ∈ ql, c ≠ 114) (hd : ∀ c ∈ dl, c.toNat < 128) (hM : Mx w) (hl : ql = [49, 54]) :
    Calls Tryz.prog 83 #[.string s] w fun e w' => e = .returned (.bool (!Lib.containsAny dl [])) ∧ Below w.heap.size w w' := by
  obtain ⟨m, hm⟩ := hM
  have h1 := Tryz.strings_Cut s ⟨#[114]⟩ m w (by omega) hm
  rw [hs, show (⟨#[114]⟩ : ByteArray).data.toList = [114] from rfl, cut_r ql dl hq, hl] at h1
  have HA := Lib.hid (asc_of hd)
  have HZ : Hid ((⟨dl.toArray⟩ : ByteArray).size ≤ 1000000) := Lib.hid hdz
  have H2 := Lib.hid (fun W => Tryz.strings_ContainsAny_laid ⟨dl.toArray⟩ ⟨#[]⟩ W (by have := HZ.out; omega) (by decide) HA.out (asc_of (l := []) (by decide)))
  have H1 := Lib.hid h1
  clear h1 hs hq hd hl hm
  go_enter Tryz.func83, Tryz.ntmps83
  go_wp2_with (first | (go_at_call 113; (with_reducible refine H1.out.mono ?_); rintro e w1 ⟨rfl, n, rfl⟩) | (go_at_call 114; (with_reducible refine (H2.out _).mono ?_); rintro e w2 ⟨rfl, k2⟩))
  go_returns
  exact ⟨rfl, Below.call (below_dn w n) (Nat.le_refl _) k2⟩
set_option maxHeartbeats 1000000 in
theorem ar_no (s : ByteArray) (ql dl : List UInt8) (w : World) (hs : s.data.toList = ql ++ 114 :: dl) (hz : s.size ≤ 1000000) (hq : ∀ c ∈ ql, c ≠ 114) (hM : Mx w) (h2 : ql ≠ [50]) (h4 : ql ≠ [52]) (h8 : ql ≠ [56]) (h16 : ql ≠ [49, 54]) :
    Calls Tryz.prog 83 #[.string s] w fun e w' => e = .returned (.bool false) ∧ Below w.heap.size w w' := by
  obtain ⟨m, hm⟩ := hM
  have h1 := Tryz.strings_Cut s ⟨#[114]⟩ m w (by omega) hm
  rw [hs, show (⟨#[114]⟩ : ByteArray).data.toList = [114] from rfl, cut_r ql dl hq] at h1
  have H1 := Lib.hid h1
  have b2 : (ql == [50]) = false := beq_eq_false_iff_ne.2 h2
  have b4 : (ql == [52]) = false := beq_eq_false_iff_ne.2 h4
  have b8 : (ql == [56]) = false := beq_eq_false_iff_ne.2 h8
  have b16 : (ql == [49, 54]) = false := beq_eq_false_iff_ne.2 h16
  clear h1 hs hq hm h2 h4 h8 h16
  go_enter Tryz.func83, Tryz.ntmps83
  go_wp2_with (go_at_call 113; (with_reducible refine H1.out.mono ?_); rintro e w1 ⟨rfl, n, rfl⟩)
  go_returns
  exact ⟨rfl, below_dn w n⟩
theorem areBits_any (s : ByteArray) (ql dl : List UInt8) (w : World) (hs : s.data.toList = ql ++ 114 :: dl) (hz : s.size ≤ 1000000) (hdz : dl.length ≤ 1000000) (hq : ∀ c ∈ ql, c ≠ 114) (hd : ∀ c ∈ dl, c.toNat < 128) (hM : Mx w) :
    Calls Tryz.prog 83 #[.string s] w fun e w' => e = .returned (.bool (abF ql dl)) ∧ Below w.heap.size w w' := by
  unfold abF ovF
  by_cases h2 : ql = [50]
  · rw [if_pos h2]; exact ar_2 s ql dl w hs hz hdz hq hd hM h2
  · rw [if_neg h2]
    by_cases h4 : ql = [52]
    · rw [if_pos h4]; exact ar_4 s ql dl w hs hz hdz hq hd hM h4
    · rw [if_neg h4]
      by_cases h8 : ql = [56]
      · rw [if_pos h8]; exact ar_8 s ql dl w hs hz hdz hq hd hM h8
      · rw [if_neg h8]
        by_cases h16 : ql = [49, 54]
        · rw [if_pos h16]; exact ar_16 s ql dl w hs hz hdz hq hd hM h16
        · rw [if_neg h16]; exact ar_no s ql dl w hs hz hq hM h2 h4 h8 h16
end Go.Proofs.YtbnldpcbdeeflaaGreatDoor
/- The scanner's step over a number. Condition: the scanner's block and its list lie in blocks of the call's own. -/
namespace Go.Proofs.YtbnldpcbdeeflaaGreatDoor
open Go.ChangeShapes Go.WideShapes Go.ChangeAt Go.RowKit

theorem rn_all (f : Int → Bool) (hf : f 0 = false) (r : Int) (t : ByteArray) (i e : Nat) : ∀ c ∈ (rn f hf r t i e).1, ∃ k, c = cu (ch r t k) ∧ f (ch r t k) = true := by
  rw [rn]
  by_cases h : f (ch r t i) = true
  · rw [dif_pos h]
    have h1 := ch_lt hf h
    have h2 := sk_ge t (i + 1)
    have ih := rn_all f hf r t (sk t (i + 1)) (i + 1)
    intro c hc
    rcases List.mem_cons.1 hc with rfl | hc
    · exact ⟨i, rfl, h⟩
    · exact ih c hc
  · rw [dif_neg h]
    intro c hc
    cases hc
termination_by t.size - i
theorem cu_nat {c : Int} (h0 : 0 ≤ c) (h1 : c ≤ 255) : (cu c).toNat = c.toNat := by
  unfold cu
  rw [UInt8.toNat_ofNat']
  omega
theorem di_not (r : Int) (t : ByteArray) (a : Nat) : ∀ c ∈ (rnF bDi bDi0 r t a).1, c ≠ 114 := by
  intro c hc e
  obtain ⟨k, rfl, hk⟩ := rn_all bDi bDi0 r t _ _ c hc
  have hb := ch_bd r t k
  have hn := cu_nat hb.1 hb.2
  rw [e] at hn
  have h114 : (114 : UInt8).toNat = 114 := rfl
  unfold bDi at hk
  have := of_decide_eq_true hk
  omega
theorem rd_asc (r : Int) (t : ByteArray) (a : Nat) : ∀ c ∈ (rdF r t a).1, c.toNat < 128 := by
  unfold rdF
  split
  · intro c hc
    obtain ⟨k, rfl, hk⟩ := rn_all bHx bHx0 r t _ _ c hc
    have hb := ch_bd r t k
    rw [cu_nat hb.1 hb.2]
    unfold bHx at hk
    have := of_decide_eq_true hk
    omega
  · intro c hc
    cases hc
theorem nb_cases (r : Int) (t : ByteArray) (a : Nat) (hl : t.size ≤ 100000) : (nbF r t a).2.1.size ≤ 1000000 ∧ (((nbF r t a).1 = 5 ∧ (nbF r t a).2.1.data.toList = (rnF bDi bDi0 r t a).1 ++ 114 :: (rdF r t (rnF bDi bDi0 r t a).2).1) ∨ (nbF r t a).1 = 3 ∨ (nbF r t a).1 = 4) := by
  have hq := rnF_len bDi bDi0 r t a
  have hd := rdF_len r t (rnF bDi bDi0 r t a).2
  have hs : ∀ l : List UInt8, (ByteArray.mk l.toArray).size = l.length := fun l => by simp [ByteArray.size]
  unfold nbF
  split
  · unfold xnF
    have hm : (mnF r t (rnF bDi bDi0 r t a)).2.1.size ≤ 400000 ∧ ((mnF r t (rnF bDi bDi0 r t a)).1 = 3 ∨ (mnF r t (rnF bDi bDi0 r t a)).1 = 4) := by
      unfold mnF
      split
      · have hg := rnF_len bDi bDi0 r t (sk t (rnF bDi bDi0 r t a).2 + 1)
        refine ⟨?_, Or.inr rfl⟩
        show (_ ++ _ ++ _ : ByteArray).size ≤ _
        rw [ByteArray.size_append, ByteArray.size_append, show (⟨#[46]⟩ : ByteArray).size = 1 from rfl, hs, hs]
        omega
      · refine ⟨?_, Or.inl rfl⟩
        show (ByteArray.mk _).size ≤ _
        rw [hs]
        omega
    split
    · exact ⟨by omega, Or.inr hm.2⟩
    · have hx := exF_len r t (mnF r t (rnF bDi bDi0 r t a)).2.2
      refine ⟨?_, Or.inr (Or.inr rfl)⟩
      show (_ ++ _ : ByteArray).size ≤ _
      rw [ByteArray.size_append]
      omega
  · refine ⟨?_, Or.inl ⟨rfl, ?_⟩⟩
    · show (_ ++ _ ++ _ : ByteArray).size ≤ _
      rw [ByteArray.size_append, ByteArray.size_append, show (⟨#[114]⟩ : ByteArray).size = 1 from rfl, hs, hs]
      omega
    · simp
/-- What a number leaves. -/
def nuR (r : Int) (t : ByteArray) (a : Nat) (l : List Sy) : Rs :=
  if 100 < lc (nbF r t a).2.1 0 then ⟨r, a, l, a, 3⟩
  else if (nbF r t a).1 = 5 ∧ abF (rnF bDi bDi0 r t a).1 (rdF r t (rnF bDi bDi0 r t a).2).1 = false then ⟨r, a, l, a, 11⟩
  else ⟨r, (nbF r t a).2.2, l ++ [((nbF r t a).1, (nbF r t a).2.1, (a : Int))], 0, 0⟩
set_option maxHeartbeats 2000000 in
theorem nm_long (B S a : Nat) (t : ByteArray) (r : Int) (v : Value) (l : List Sy) (w : World) (hS : Sc w S t r (a : Int) v) (hL : Sl w B v l) (hB : B ≤ S) (hl : t.size ≤ 100000) (hll : l.length ≤ 1000000) (ha : a ≤ t.size) (hM : Mx w) (k : Int) (x : ByteArray) (z : Nat) (hn : nbF r t a = (k, x, z)) (n : Nat) (hx : lc x 0 = n) (hxs : x.size ≤ 1000000) (hbig : 100 < n) :
    Calls Tryz.prog 43 #[.pointer (some ⟨S, 0, none⟩)] w (Stp B S t w ⟨r, a, l, a, 3⟩) := by
  have hlt := hS.lt
  have c2 := hS.c2
  have h1 := nb_any t S a r v (w.alloc (.cells #[.int .i64 0, .int .i64 0] 26)) (Own.alloc hS _) hl ha
  rw [hn] at h1
  have H1 := Lib.hid h1
  have HLE := Lib.hid (fun W => letters_any x W hxs)
  rw [hx] at HLE
  have HF := Lib.hid (fun e W hb => fault_at c2 e W hb)
  have HS := Lib.hid hS
  have HL := Lib.hid hL
  clear h1 hS hL hM c2 hn hx hl hll ha
  go_enter Tryz.func43, Tryz.ntmps43
  go_wp2_with (first | (go_at_call 81; (with_reducible refine H1.out.mono ?_); rintro e w1 ⟨rfl, k1⟩; (have hb1 := Below.call ((Below.refl w.heap.size w).alloc (Nat.le_refl _) (.cells #[.int .i64 0, .int .i64 0] 26)) (by simp) k1); (have HR1 := Lib.hid ((Own.new w 26 [.int .i64 0, .int .i64 0]).kept k1))) | (go_at_call 82; (with_reducible refine (HLE.out _).mono ?_); rintro e w' ⟨rfl, rfl⟩) | (go_at_call 78; (with_reducible refine (HF.out 3 w1 hb1).mono ?_); rintro e wf ⟨rfl, kf⟩; (have hbf := Below.call hb1 hb1.size kf); (have hzf := hbf.size); (have hRf := HR1.out.kept kf); (have g0 : wf.cell? ⟨w.heap.size, 0, none⟩ = some (.int .i64 0) := Own.cell hRf 0); (have g1 : wf.cell? ⟨w.heap.size, 1, none⟩ = some (.int .i64 0) := Own.cell hRf 1); (have gf := fun i => Own.frozen hRf i); (have gl := Own.lt hRf); (have HRf := Lib.hid hRf); clear hRf))
  have hF := (HRf.out.put 0 (.int .i64 (a : Int))).put 1 (.int .i64 3)
  refine bodyPost_ret (ret_own rfl hF rfl Tryz.underlying26 rfl (by kernel_rfl)) rfl ?_
  have hB2 := (hbf.setCell (p := ⟨w.heap.size, 0, none⟩) (Nat.le_refl _) (.int .i64 (a : Int))).setCell (p := ⟨w.heap.size, 1, none⟩) (Nat.le_refl _) (.int .i64 3)
  exact Stp.gb HS.out HL.out hB rfl (Own.kept HS.out hB2) (Gb.of hB2)
set_option maxHeartbeats 2000000 in
theorem nm_bad (B S a : Nat) (t : ByteArray) (r : Int) (v : Value) (l : List Sy) (w : World) (hS : Sc w S t r (a : Int) v) (hL : Sl w B v l) (hB : B ≤ S) (hl : t.size ≤ 100000) (hll : l.length ≤ 1000000) (ha : a ≤ t.size) (hM : Mx w) (k : Int) (x : ByteArray) (z : Nat) (hn : nbF r t a = (k, x, z)) (n : Nat) (hx : lc x 0 = n) (hxs : x.size ≤ 1000000) (hbig : n ≤ 100) (ql dl : List UInt8) (hk : k = 5) (hs : x.data.toList = ql ++ 114 :: dl) (hdz : dl.length ≤ 1000000) (hq : ∀ c ∈ ql, c ≠ 114) (hd : ∀ c ∈ dl, c.toNat < 128) (hab : abF ql dl = false) :
    Calls Tryz.prog 43 #[.pointer (some ⟨S, 0, none⟩)] w (Stp B S t w ⟨r, a, l, a, 11⟩) := by
  have hlt := hS.lt
  have c2 := hS.c2
  have h1 := nb_any t S a r v (w.alloc (.cells #[.int .i64 0, .int .i64 0] 26)) (Own.alloc hS _) hl ha
  rw [hn] at h1
  have H1 := Lib.hid h1
  have HLE := Lib.hid (fun W => letters_any x W hxs)
  rw [hx] at HLE
  have HF := Lib.hid (fun e W hb => fault_at c2 e W hb)
  have HS := Lib.hid hS
  have HL := Lib.hid hL
  have HAB : Hid (∀ W, Below w.heap.size w W → Calls Tryz.prog 83 #[.string x] W fun e w' => e = .returned (.bool false) ∧ Below W.heap.size W w') := Lib.hid (fun W hb => by have := areBits_any x ql dl W hs hxs hdz hq hd (hM.call hb); rwa [hab] at this)
  subst hk
  clear h1 hS hL hM c2 hn hx hl hll ha hs hq hd hab
  go_enter Tryz.func43, Tryz.ntmps43
  go_wp2_with (first | (go_at_call 81; (with_reducible refine H1.out.mono ?_); rintro e w1 ⟨rfl, k1⟩; (have hb1 := Below.call ((Below.refl w.heap.size w).alloc (Nat.le_refl _) (.cells #[.int .i64 0, .int .i64 0] 26)) (by simp) k1); (have HR1 := Lib.hid ((Own.new w 26 [.int .i64 0, .int .i64 0]).kept k1))) | (go_at_call 82; (with_reducible refine (HLE.out _).mono ?_); rintro e w' ⟨rfl, rfl⟩) | (go_at_call 83; (with_reducible refine (HAB.out w1 hb1).mono ?_); rintro e w2 ⟨rfl, k2⟩; (have hb2 := Below.call hb1 hb1.size k2); (have HR2 := Lib.hid (HR1.out.kept k2))) | (go_at_call 78; (with_reducible refine (HF.out 11 w2 hb2).mono ?_); rintro e wf ⟨rfl, kf⟩; (have hbf := Below.call hb2 hb2.size kf); (have hzf := hbf.size); (have hRf := HR2.out.kept kf); (have g0 : wf.cell? ⟨w.heap.size, 0, none⟩ = some (.int .i64 0) := Own.cell hRf 0); (have g1 : wf.cell? ⟨w.heap.size, 1, none⟩ = some (.int .i64 0) := Own.cell hRf 1); (have gf := fun i => Own.frozen hRf i); (have gl := Own.lt hRf); (have HRf := Lib.hid hRf); clear hRf))
  have hF := (HRf.out.put 0 (.int .i64 (a : Int))).put 1 (.int .i64 11)
  refine bodyPost_ret (ret_own rfl hF rfl Tryz.underlying26 rfl (by kernel_rfl)) rfl ?_
  have hB2 := (hbf.setCell (p := ⟨w.heap.size, 0, none⟩) (Nat.le_refl _) (.int .i64 (a : Int))).setCell (p := ⟨w.heap.size, 1, none⟩) (Nat.le_refl _) (.int .i64 11)
  exact Stp.gb HS.out HL.out hB rfl (Own.kept HS.out hB2) (Gb.of hB2)
set_option maxHeartbeats 2000000 in
theorem nm_bits (B S a : Nat) (t : ByteArray) (r : Int) (v : Value) (l : List Sy) (w : World) (hS : Sc w S t r (a : Int) v) (hL : Sl w B v l) (hB : B ≤ S) (hl : t.size ≤ 100000) (hll : l.length ≤ 1000000) (ha : a ≤ t.size) (hM : Mx w) (k : Int) (x : ByteArray) (z : Nat) (hn : nbF r t a = (k, x, z)) (n : Nat) (hx : lc x 0 = n) (hxs : x.size ≤ 1000000) (hbig : n ≤ 100) (ql dl : List UInt8) (hk : k = 5) (hs : x.data.toList = ql ++ 114 :: dl) (hdz : dl.length ≤ 1000000) (hq : ∀ c ∈ ql, c ≠ 114) (hd : ∀ c ∈ dl, c.toNat < 128) (hab : abF ql dl = true) :
    Calls Tryz.prog 43 #[.pointer (some ⟨S, 0, none⟩)] w (Stp B S t w ⟨r, z, l ++ [(k, x, (a : Int))], 0, 0⟩) := by
  have hlt := hS.lt
  have c2 := hS.c2
  have h1 := nb_any t S a r v (w.alloc (.cells #[.int .i64 0, .int .i64 0] 26)) (Own.alloc hS _) hl ha
  rw [hn] at h1
  have H1 := Lib.hid h1
  have HLE := Lib.hid (fun W => letters_any x W hxs)
  rw [hx] at HLE
  have HAB : Hid (∀ W, Below w.heap.size w W → Calls Tryz.prog 83 #[.string x] W fun e w' => e = .returned (.bool true) ∧ Below W.heap.size W w') := Lib.hid (fun W hb => by have := areBits_any x ql dl W hs hxs hdz hq hd (hM.call hb); rwa [hab] at this)
  subst hk
  have HS := Lib.hid hS
  have HA : Hid (∀ W, Below w.heap.size w W → Calls Tryz.prog 80 #[.pointer (some ⟨S, 0, none⟩), .int .i64 5, .string x, .int .i64 (z : Int)] W fun e w' => e = .returned (.agg #[.int .i64 0, .int .i64 0]) ∧ (∃ v', Sc w' S t r (z : Int) v' ∧ Sl w' B v' (l ++ [(5, x, (a : Int))])) ∧ Below B W w' ∧ Ot S v W w') := Lib.hid (fun W hb => add_any B S t r a 5 z x v l W (Own.kept hS hb) (hL.gb (Sl.ne hL hS (by decide)) (Gb.of hb)) hB hll)
  have HNV : Hid (v.ownBlock ≠ some w.heap.size) := Lib.hid (fun e => absurd (World.ownsRow.lt hL _ e).2 (Nat.lt_irrefl _))
  clear h1 hS hL hM c2 hn hx hl hll ha hs hq hd hab
  go_enter Tryz.func43, Tryz.ntmps43
  go_wp2_with (first | (go_at_call 81; (with_reducible refine H1.out.mono ?_); rintro e w1 ⟨rfl, k1⟩; (have hb1 := Below.call ((Below.refl w.heap.size w).alloc (Nat.le_refl _) (.cells #[.int .i64 0, .int .i64 0] 26)) (by simp) k1); (have HR1 := Lib.hid ((Own.new w 26 [.int .i64 0, .int .i64 0]).kept k1))) | (go_at_call 82; (with_reducible refine (HLE.out _).mono ?_); rintro e w' ⟨rfl, rfl⟩) | (go_at_call 83; (with_reducible refine (HAB.out w1 hb1).mono ?_); rintro e w2 ⟨rfl, k2⟩; (have hb2 := Below.call hb1 hb1.size k2); (have HR2 := Lib.hid (HR1.out.kept k2))) | (go_at_call 80; (with_reducible refine (HA.out w2 hb2).mono ?_)))
  rintro e w3 ⟨rfl, ⟨v3, hS3, hL3⟩, hb3, ho3⟩
  have hzi := hb2.size
  have hz3 := hb3.size
  have hR3 := HR2.out.ot ho3 (by omega) HNV.out
  have g0 : w3.cell? ⟨w.heap.size, 0, none⟩ = some (.int .i64 0) := Own.cell hR3 0
  have g1 : w3.cell? ⟨w.heap.size, 1, none⟩ = some (.int .i64 0) := Own.cell hR3 1
  have gf := fun i => Own.frozen hR3 i
  have gl := Own.lt hR3
  have HR3 := Lib.hid hR3
  have HS3 := Lib.hid hS3
  have HL3 := Lib.hid hL3
  have hne2 : S ≠ w.heap.size := by omega
  clear hR3 hS3 hL3
  go_wp2_with fail
  have hF := (HR3.out.put 0 (.int .i64 0)).put 1 (.int .i64 0)
  refine bodyPost_ret (ret_own rfl hF rfl Tryz.underlying26 rfl (by kernel_rfl)) rfl ?_
  have n2 := Sl.ne HL3.out HR3.out (by decide)
  exact ⟨rfl, ⟨v3, (Own.far HS3.out hne2 _).far hne2 _, (HL3.out.far n2 _).far n2 _⟩, (((hb2.mono (by omega)).trans hb3).setCell (p := ⟨w.heap.size, 0, none⟩) (by show B ≤ w.heap.size; omega) _).setCell (p := ⟨w.heap.size, 1, none⟩) (by show B ≤ w.heap.size; omega) _, Kp.add HS.out hb2 ho3 _ _⟩
set_option maxHeartbeats 2000000 in
theorem nm_plain (B S a : Nat) (t : ByteArray) (r : Int) (v : Value) (l : List Sy) (w : World) (hS : Sc w S t r (a : Int) v) (hL : Sl w B v l) (hB : B ≤ S) (hl : t.size ≤ 100000) (hll : l.length ≤ 1000000) (ha : a ≤ t.size) (hM : Mx w) (k : Int) (x : ByteArray) (z : Nat) (hn : nbF r t a = (k, x, z)) (n : Nat) (hx : lc x 0 = n) (hxs : x.size ≤ 1000000) (hbig : n ≤ 100) (hk : k = 3 ∨ k = 4) :
    Calls Tryz.prog 43 #[.pointer (some ⟨S, 0, none⟩)] w (Stp B S t w ⟨r, z, l ++ [(k, x, (a : Int))], 0, 0⟩) := by
  have hlt := hS.lt
  have c2 := hS.c2
  have h1 := nb_any t S a r v (w.alloc (.cells #[.int .i64 0, .int .i64 0] 26)) (Own.alloc hS _) hl ha
  rw [hn] at h1
  have H1 := Lib.hid h1
  have HLE := Lib.hid (fun W => letters_any x W hxs)
  rw [hx] at HLE
  have HS := Lib.hid hS
  have HA : Hid (∀ W, Below w.heap.size w W → Calls Tryz.prog 80 #[.pointer (some ⟨S, 0, none⟩), .int .i64 k, .string x, .int .i64 (z : Int)] W fun e w' => e = .returned (.agg #[.int .i64 0, .int .i64 0]) ∧ (∃ v', Sc w' S t r (z : Int) v' ∧ Sl w' B v' (l ++ [(k, x, (a : Int))])) ∧ Below B W w' ∧ Ot S v W w') := Lib.hid (fun W hb => add_any B S t r a k z x v l W (Own.kept hS hb) (hL.gb (Sl.ne hL hS (by decide)) (Gb.of hb)) hB hll)
  have HNV : Hid (v.ownBlock ≠ some w.heap.size) := Lib.hid (fun e => absurd (World.ownsRow.lt hL _ e).2 (Nat.lt_irrefl _))
  have hkb : (k == 5) = false := by rw [beq_eq_false_iff_ne]; omega
  clear h1 hS hL hM c2 hn hx hl hll ha hk
  go_enter Tryz.func43, Tryz.ntmps43
  go_wp2_with (first | (go_at_call 81; (with_reducible refine H1.out.mono ?_); rintro e w1 ⟨rfl, k1⟩; (have hb1 := Below.call ((Below.refl w.heap.size w).alloc (Nat.le_refl _) (.cells #[.int .i64 0, .int .i64 0] 26)) (by simp) k1); (have HR1 := Lib.hid ((Own.new w 26 [.int .i64 0, .int .i64 0]).kept k1))) | (go_at_call 82; (with_reducible refine (HLE.out _).mono ?_); rintro e w' ⟨rfl, rfl⟩) | (go_at_call 80; (with_reducible refine (HA.out w1 hb1).mono ?_)))
  rintro e w3 ⟨rfl, ⟨v3, hS3, hL3⟩, hb3, ho3⟩
  have hzi := hb1.size
  have hz3 := hb3.size
  have hR3 := HR1.out.ot ho3 (by omega) HNV.out
  have g0 : w3.cell? ⟨w.heap.size, 0, none⟩ = some (.int .i64 0) := Own.cell hR3 0
  have g1 : w3.cell? ⟨w.heap.size, 1, none⟩ = some (.int .i64 0) := Own.cell hR3 1
  have gf := fun i => Own.frozen hR3 i
  have gl := Own.lt hR3
  have HR3 := Lib.hid hR3
  have HS3 := Lib.hid hS3
  have HL3 := Lib.hid hL3
  have hne2 : S ≠ w.heap.size := by omega
  clear hR3 hS3 hL3
  go_wp2_with fail
  have hF := (HR3.out.put 0 (.int .i64 0)).put 1 (.int .i64 0)
  refine bodyPost_ret (ret_own rfl hF rfl Tryz.underlying26 rfl (by kernel_rfl)) rfl ?_
  have n2 := Sl.ne HL3.out HR3.out (by decide)
  exact ⟨rfl, ⟨v3, (Own.far HS3.out hne2 _).far hne2 _, (HL3.out.far n2 _).far n2 _⟩, (((hb1.mono (by omega)).trans hb3).setCell (p := ⟨w.heap.size, 0, none⟩) (by show B ≤ w.heap.size; omega) _).setCell (p := ⟨w.heap.size, 1, none⟩) (by show B ≤ w.heap.size; omega) _, Kp.add HS.out hb1 ho3 _ _⟩
theorem number_any (B S a : Nat) (t : ByteArray) (r : Int) (v : Value) (l : List Sy) (w : World) (hS : Sc w S t r (a : Int) v) (hL : Sl w B v l) (hB : B ≤ S) (hl : t.size ≤ 100000) (hll : l.length ≤ 1000000) (ha : a ≤ t.size) (hM : Mx w) :
    Calls Tryz.prog 43 #[.pointer (some ⟨S, 0, none⟩)] w (Stp B S t w (nuR r t a l)) := by
  have hc := nb_cases r t a hl
  have hdz : (rdF r t (rnF bDi bDi0 r t a).2).1.length ≤ 1000000 := by have := rdF_len r t (rnF bDi bDi0 r t a).2; omega
  unfold nuR
  obtain ⟨⟨k, x, z⟩, hn⟩ : ∃ n, nbF r t a = n := ⟨_, rfl⟩
  rw [hn] at hc ⊢
  simp only at hc ⊢
  by_cases hbig : 100 < lc x 0
  · rw [if_pos hbig]
    exact nm_long B S a t r v l w hS hL hB hl hll ha hM k x z hn _ rfl hc.1 hbig
  · rw [if_neg hbig]
    rcases hc.2 with ⟨hk, hs⟩ | hk
    · cases hab : abF (rnF bDi bDi0 r t a).1 (rdF r t (rnF bDi bDi0 r t a).2).1
      · rw [if_pos ⟨hk, rfl⟩]
        exact nm_bad B S a t r v l w hS hL hB hl hll ha hM k x z hn _ rfl hc.1 (by omega) _ _ hk hs hdz (di_not r t a) (rd_asc r t _) hab
      · rw [if_neg (fun h => by cases h.2)]
        exact nm_bits B S a t r v l w hS hL hB hl hll ha hM k x z hn _ rfl hc.1 (by omega) _ _ hk hs hdz (di_not r t a) (rd_asc r t _) hab
    · rw [if_neg (fun h => by omega)]
      exact nm_plain B S a t r v l w hS hL hB hl hll ha hM k x z hn _ rfl hc.1 (by omega) hk
end Go.Proofs.YtbnldpcbdeeflaaGreatDoor
/- Whether a bold word in a comment is none; the regime that a pragmat sets. Condition: the scanner's block is the call's own. -/
namespace Go.Proofs.YtbnldpcbdeeflaaGreatDoor
open Go.ChangeShapes Go.WideShapes Go.ChangeAt Go.RowKit

/-- Whether what looks like a bold word is none for what stands directly before it. -/
def jn (r : Int) (t : ByteArray) (i : Nat) : Bool := (r == 0) && bSd (pk t (i - 1))
theorem joined_any (t : ByteArray) (S i : Nat) (r : Int) (w : World) (c0 : w.cell? ⟨S, 0, none⟩ = some (.string t)) (c1 : w.cell? ⟨S, 1, none⟩ = some (.int .i64 r)) (hl : t.size ≤ 100000) (hi : 1 ≤ i) (hi2 : i ≤ t.size) :
    Calls Tryz.prog 117 #[.pointer (some ⟨S, 0, none⟩), .int .i64 (i : Int)] w fun e w' => e = .returned (.bool (jn r t i)) ∧ w = w' := by
  unfold jn
  have hp := pk_bd t (i - 1)
  have hpi := (pk_in (show i - 1 < t.size by omega)).symm
  obtain ⟨p, hpe⟩ : ∃ p, pk t (i - 1) = p := ⟨_, rfl⟩
  rw [hpe] at hp hpi ⊢
  have HB := Lib.hid (fun w => by_sd p w hp.1 hp.2)
  obtain ⟨j, hj⟩ : ∃ j, i = j + 1 := ⟨i - 1, by omega⟩
  subst hj
  simp only [Nat.add_sub_cancel] at hpi
  have hjt : j < t.size := by omega
  clear hpe
  cases hr : (r == 0)
  · go_enter Tryz.func117, Tryz.ntmps117
    go_wp2_with ((go_at_call 47; (with_reducible refine (HB.out _).mono ?_); rintro e w' ⟨rfl, rfl⟩))
    go_returns
    exact ⟨rfl, rfl⟩
  · rw [Bool.true_and]
    go_enter Tryz.func117, Tryz.ntmps117
    go_wp2_with ((go_at_call 47; (with_reducible refine (HB.out _).mono ?_); rintro e w' ⟨rfl, rfl⟩))
    go_returns
    exact ⟨rfl, rfl⟩
/-- The inner text of a pragmat in small letters, without the blanks around it; the regime that it leaves. -/
def pgT (x : ByteArray) : List UInt8 := Lib.toLowerA (Lib.trimS x.data.toList [9, 10, 32])
def pgR (r : Int) (x : ByteArray) : Int := if pgT x = [117, 112, 112, 101, 114] then 0 else if pgT x = [112, 111, 105, 110, 116] then 1 else if pgT x = [113, 117, 111, 116, 101] then 2 else r
theorem dw_mem (p : UInt8 → Bool) : ∀ (l : List UInt8) c, c ∈ l.dropWhile p → c ∈ l
  | [], _, h => h
  | x :: l, c, h => by
    rw [List.dropWhile_cons] at h
    split at h
    · exact List.mem_cons_of_mem _ (dw_mem p l c h)
    · exact h
theorem dw_len (p : UInt8 → Bool) : ∀ (l : List UInt8), (l.dropWhile p).length ≤ l.length
  | [] => Nat.le_refl _
  | x :: l => by
    rw [List.dropWhile_cons]
    split
    · exact Nat.le_trans (dw_len p l) (Nat.le_succ _)
    · exact Nat.le_refl _
theorem trim_asc {l cs : List UInt8} (h : ∀ c ∈ l, c.toNat < 128) : ∀ c ∈ Lib.trimS l cs, c.toNat < 128 := by
  intro c hc
  unfold Lib.trimS Lib.trimLeftS Lib.trimRightS at hc
  have h1 := dw_mem _ _ _ hc
  rw [List.mem_reverse] at h1
  have h2 := dw_mem _ _ _ h1
  rw [List.mem_reverse] at h2
  exact h c h2
theorem trim_len (l cs : List UInt8) : (Lib.trimS l cs).length ≤ l.length := by
  unfold Lib.trimS Lib.trimLeftS Lib.trimRightS
  have h1 := dw_len (cs.contains ·) (l.reverse.dropWhile (cs.contains ·)).reverse
  have h2 := dw_len (cs.contains ·) l.reverse
  rw [List.length_reverse] at h1 h2
  omega
set_option maxHeartbeats 1000000 in
theorem set_u (S : Nat) (t x : ByteArray) (r a : Int) (v : Value) (w : World) (hS : Sc w S t r a v) (hx : x.size ≤ 100000) (hc : ∀ c ∈ x.data.toList, c.toNat < 128) (e0 : pgT x = [117, 112, 112, 101, 114]) :
    Calls Tryz.prog 118 #[.pointer (some ⟨S, 0, none⟩), .string x] w fun e w' => e = .returned (.tuple #[]) ∧ Sc w' S t 0 a v ∧ Gb S w w' := by
  have h1 := Any.strings_Trim_laid Tryz.lays160 (by kernel_rfl) x ⟨#[9, 10, 32]⟩ w (by omega) (by decide) (asc_of (l := [9, 10, 32]) (by decide))
  rw [show (⟨#[9, 10, 32]⟩ : ByteArray).data.toList = [9, 10, 32] from rfl] at h1
  have hxl : x.data.toList.length = x.size := rfl
  have hl := trim_len x.data.toList [9, 10, 32]
  have ha := asc_of (trim_asc (cs := [9, 10, 32]) hc)
  have hsz : (ByteArray.mk (Lib.trimS x.data.toList [9, 10, 32]).toArray).size ≤ 100000 := by
    show (Lib.trimS x.data.toList [9, 10, 32]).toArray.size ≤ 100000
    rw [List.size_toArray]
    omega
  have H2 := Lib.hid (fun W => Tryz.strings_ToLower_ascii ⟨(Lib.trimS x.data.toList [9, 10, 32]).toArray⟩ W (by omega) ha)
  rw [show Lib.toLowerA (ByteArray.mk (Lib.trimS x.data.toList [9, 10, 32]).toArray).data.toList = pgT x from rfl] at H2
  obtain ⟨l, hl2⟩ : ∃ l, pgT x = l := ⟨_, rfl⟩
  obtain ⟨y, hy⟩ : ∃ y, (ByteArray.mk (Lib.trimS x.data.toList [9, 10, 32]).toArray) = y := ⟨_, rfl⟩
  rw [hl2, hy] at H2
  replace h1 : Calls Tryz.prog 130 #[.string x, .string ⟨#[9, 10, 32]⟩] w fun e w' => e = .returned (.string y) ∧ Below w.heap.size w w' := by rw [← hy]; exact h1
  have b0 : (l == [117, 112, 112, 101, 114]) = true := by rw [← hl2]; exact beq_iff_eq.2 e0
  have H1 := Lib.hid h1
  have HS := Lib.hid hS
  have hlt := hS.lt
  clear h1 hS ha hsz hl hxl hx hc hy hl2
  go_enter Tryz.func118, Tryz.ntmps118
  go_wp2_with (first | (go_at_call 130; (with_reducible refine H1.out.mono ?_); rintro e w1 ⟨rfl, hb1⟩) | (go_at_call 103; (with_reducible refine (H2.out _).mono ?_); rintro e w2 ⟨rfl, k2⟩; (have hb2 := Below.call hb1 hb1.size k2); (have hz2 := hb2.size); (have hS2 := Own.kept HS.out hb2); (have g1 : w2.cell? ⟨S, 1, none⟩ = some (.int .i64 r) := Own.cell hS2 1); (have gf := fun i => Own.frozen hS2 i); (have HS2 := Lib.hid hS2); clear hS2))
  go_returns
  refine ⟨rfl, Own.put HS2.out 1 (.int .i64 0), ?_⟩
  exact (Gb.of hb2).set (Or.inl rfl) _
set_option maxHeartbeats 1000000 in
theorem set_p (S : Nat) (t x : ByteArray) (r a : Int) (v : Value) (w : World) (hS : Sc w S t r a v) (hx : x.size ≤ 100000) (hc : ∀ c ∈ x.data.toList, c.toNat < 128) (e0 : pgT x ≠ [117, 112, 112, 101, 114]) (e1 : pgT x = [112, 111, 105, 110, 116]) :
    Calls Tryz.prog 118 #[.pointer (some ⟨S, 0, none⟩), .string x] w fun e w' => e = .returned (.tuple #[]) ∧ Sc w' S t 1 a v ∧ Gb S w w' := by
  have h1 := Any.strings_Trim_laid Tryz.lays160 (by kernel_rfl) x ⟨#[9, 10, 32]⟩ w (by omega) (by decide) (asc_of (l := [9, 10, 32]) (by decide))
  rw [show (⟨#[9, 10, 32]⟩ : ByteArray).data.toList = [9, 10, 32] from rfl] at h1
  have hxl : x.data.toList.length = x.size := rfl
  have hl := trim_len x.data.toList [9, 10, 32]
  have ha := asc_of (trim_asc (cs := [9, 10, 32]) hc)
  have hsz : (ByteArray.mk (Lib.trimS x.data.toList [9, 10, 32]).toArray).size ≤ 100000 := by
    show (Lib.trimS x.data.toList [9, 10, 32]).toArray.size ≤ 100000
    rw [List.size_toArray]
    omega
  have H2 := Lib.hid (fun W => Tryz.strings_ToLower_ascii ⟨(Lib.trimS x.data.toList [9, 10, 32]).toArray⟩ W (by omega) ha)
  rw [show Lib.toLowerA (ByteArray.mk (Lib.trimS x.data.toList [9, 10, 32]).toArray).data.toList = pgT x from rfl] at H2
  obtain ⟨l, hl2⟩ : ∃ l, pgT x = l := ⟨_, rfl⟩
  obtain ⟨y, hy⟩ : ∃ y, (ByteArray.mk (Lib.trimS x.data.toList [9, 10, 32]).toArray) = y := ⟨_, rfl⟩
  rw [hl2, hy] at H2
  replace h1 : Calls Tryz.prog 130 #[.string x, .string ⟨#[9, 10, 32]⟩] w fun e w' => e = .returned (.string y) ∧ Below w.heap.size w w' := by rw [← hy]; exact h1
  have b0 : (l == [117, 112, 112, 101, 114]) = false := by rw [← hl2]; exact beq_eq_false_iff_ne.2 e0
  have b1 : (l == [112, 111, 105, 110, 116]) = true := by rw [← hl2]; exact beq_iff_eq.2 e1
  have H1 := Lib.hid h1
  have HS := Lib.hid hS
  have hlt := hS.lt
  clear h1 hS ha hsz hl hxl hx hc hy hl2
  go_enter Tryz.func118, Tryz.ntmps118
  go_wp2_with (first | (go_at_call 130; (with_reducible refine H1.out.mono ?_); rintro e w1 ⟨rfl, hb1⟩) | (go_at_call 103; (with_reducible refine (H2.out _).mono ?_); rintro e w2 ⟨rfl, k2⟩; (have hb2 := Below.call hb1 hb1.size k2); (have hz2 := hb2.size); (have hS2 := Own.kept HS.out hb2); (have g1 : w2.cell? ⟨S, 1, none⟩ = some (.int .i64 r) := Own.cell hS2 1); (have gf := fun i => Own.frozen hS2 i); (have HS2 := Lib.hid hS2); clear hS2))
  go_returns
  refine ⟨rfl, Own.put HS2.out 1 (.int .i64 1), ?_⟩
  exact (Gb.of hb2).set (Or.inl rfl) _
set_option maxHeartbeats 1000000 in
theorem set_q (S : Nat) (t x : ByteArray) (r a : Int) (v : Value) (w : World) (hS : Sc w S t r a v) (hx : x.size ≤ 100000) (hc : ∀ c ∈ x.data.toList, c.toNat < 128) (e0 : pgT x ≠ [117, 112, 112, 101, 114]) (e1 : pgT x ≠ [112, 111, 105, 110, 116]) (e2 : pgT x = [113, 117, 111, 116, 101]) :
    Calls Tryz.prog 118 #[.pointer (some ⟨S, 0, none⟩), .string x] w fun e w' => e = .returned (.tuple #[]) ∧ Sc w' S t 2 a v ∧ Gb S w w' := by
  have h1 := Any.strings_Trim_laid Tryz.lays160 (by kernel_rfl) x ⟨#[9, 10, 32]⟩ w (by omega) (by decide) (asc_of (l := [9, 10, 32]) (by decide))
  rw [show (⟨#[9, 10, 32]⟩ : ByteArray).data.toList = [9, 10, 32] from rfl] at h1
  have hxl : x.data.toList.length = x.size := rfl
  have hl := trim_len x.data.toList [9, 10, 32]
  have ha := asc_of (trim_asc (cs := [9, 10, 32]) hc)
  have hsz : (ByteArray.mk (Lib.trimS x.data.toList [9, 10, 32]).toArray).size ≤ 100000 := by
    show (Lib.trimS x.data.toList [9, 10, 32]).toArray.size ≤ 100000
    rw [List.size_toArray]
    omega
  have H2 := Lib.hid (fun W => Tryz.strings_ToLower_ascii ⟨(Lib.trimS x.data.toList [9, 10, 32]).toArray⟩ W (by omega) ha)
  rw [show Lib.toLowerA (ByteArray.mk (Lib.trimS x.data.toList [9, 10, 32]).toArray).data.toList = pgT x from rfl] at H2
  obtain ⟨l, hl2⟩ : ∃ l, pgT x = l := ⟨_, rfl⟩
  obtain ⟨y, hy⟩ : ∃ y, (ByteArray.mk (Lib.trimS x.data.toList [9, 10, 32]).toArray) = y := ⟨_, rfl⟩
  rw [hl2, hy] at H2
  replace h1 : Calls Tryz.prog 130 #[.string x, .string ⟨#[9, 10, 32]⟩] w fun e w' => e = .returned (.string y) ∧ Below w.heap.size w w' := by rw [← hy]; exact h1
  have b0 : (l == [117, 112, 112, 101, 114]) = false := by rw [← hl2]; exact beq_eq_false_iff_ne.2 e0
  have b1 : (l == [112, 111, 105, 110, 116]) = false := by rw [← hl2]; exact beq_eq_false_iff_ne.2 e1
  have b2 : (l == [113, 117, 111, 116, 101]) = true := by rw [← hl2]; exact beq_iff_eq.2 e2
  have H1 := Lib.hid h1
  have HS := Lib.hid hS
  have hlt := hS.lt
  clear h1 hS ha hsz hl hxl hx hc hy hl2
  go_enter Tryz.func118, Tryz.ntmps118
  go_wp2_with (first | (go_at_call 130; (with_reducible refine H1.out.mono ?_); rintro e w1 ⟨rfl, hb1⟩) | (go_at_call 103; (with_reducible refine (H2.out _).mono ?_); rintro e w2 ⟨rfl, k2⟩; (have hb2 := Below.call hb1 hb1.size k2); (have hz2 := hb2.size); (have hS2 := Own.kept HS.out hb2); (have g1 : w2.cell? ⟨S, 1, none⟩ = some (.int .i64 r) := Own.cell hS2 1); (have gf := fun i => Own.frozen hS2 i); (have HS2 := Lib.hid hS2); clear hS2))
  go_returns
  refine ⟨rfl, Own.put HS2.out 1 (.int .i64 2), ?_⟩
  exact (Gb.of hb2).set (Or.inl rfl) _
set_option maxHeartbeats 1000000 in
theorem set_n (S : Nat) (t x : ByteArray) (r a : Int) (v : Value) (w : World) (hS : Sc w S t r a v) (hx : x.size ≤ 100000) (hc : ∀ c ∈ x.data.toList, c.toNat < 128) (e0 : pgT x ≠ [117, 112, 112, 101, 114]) (e1 : pgT x ≠ [112, 111, 105, 110, 116]) (e2 : pgT x ≠ [113, 117, 111, 116, 101]) :
    Calls Tryz.prog 118 #[.pointer (some ⟨S, 0, none⟩), .string x] w fun e w' => e = .returned (.tuple #[]) ∧ Sc w' S t r a v ∧ Gb S w w' := by
  have h1 := Any.strings_Trim_laid Tryz.lays160 (by kernel_rfl) x ⟨#[9, 10, 32]⟩ w (by omega) (by decide) (asc_of (l := [9, 10, 32]) (by decide))
  rw [show (⟨#[9, 10, 32]⟩ : ByteArray).data.toList = [9, 10, 32] from rfl] at h1
  have hxl : x.data.toList.length = x.size := rfl
  have hl := trim_len x.data.toList [9, 10, 32]
  have ha := asc_of (trim_asc (cs := [9, 10, 32]) hc)
  have hsz : (ByteArray.mk (Lib.trimS x.data.toList [9, 10, 32]).toArray).size ≤ 100000 := by
    show (Lib.trimS x.data.toList [9, 10, 32]).toArray.size ≤ 100000
    rw [List.size_toArray]
    omega
  have H2 := Lib.hid (fun W => Tryz.strings_ToLower_ascii ⟨(Lib.trimS x.data.toList [9, 10, 32]).toArray⟩ W (by omega) ha)
  rw [show Lib.toLowerA (ByteArray.mk (Lib.trimS x.data.toList [9, 10, 32]).toArray).data.toList = pgT x from rfl] at H2
  obtain ⟨l, hl2⟩ : ∃ l, pgT x = l := ⟨_, rfl⟩
  obtain ⟨y, hy⟩ : ∃ y, (ByteArray.mk (Lib.trimS x.data.toList [9, 10, 32]).toArray) = y := ⟨_, rfl⟩
  rw [hl2, hy] at H2
  replace h1 : Calls Tryz.prog 130 #[.string x, .string ⟨#[9, 10, 32]⟩] w fun e w' => e = .returned (.string y) ∧ Below w.heap.size w w' := by rw [← hy]; exact h1
  have b0 : (l == [117, 112, 112, 101, 114]) = false := by rw [← hl2]; exact beq_eq_false_iff_ne.2 e0
  have b1 : (l == [112, 111, 105, 110, 116]) = false := by rw [← hl2]; exact beq_eq_false_iff_ne.2 e1
  have b2 : (l == [113, 117, 111, 116, 101]) = false := by rw [← hl2]; exact beq_eq_false_iff_ne.2 e2
  have H1 := Lib.hid h1
  have HS := Lib.hid hS
  have hlt := hS.lt
  clear h1 hS ha hsz hl hxl hx hc hy hl2
  go_enter Tryz.func118, Tryz.ntmps118
  go_wp2_with (first | (go_at_call 130; (with_reducible refine H1.out.mono ?_); rintro e w1 ⟨rfl, hb1⟩) | (go_at_call 103; (with_reducible refine (H2.out _).mono ?_); rintro e w2 ⟨rfl, k2⟩; (have hb2 := Below.call hb1 hb1.size k2); (have hz2 := hb2.size); (have hS2 := Own.kept HS.out hb2); (have g1 : w2.cell? ⟨S, 1, none⟩ = some (.int .i64 r) := Own.cell hS2 1); (have gf := fun i => Own.frozen hS2 i); (have HS2 := Lib.hid hS2); clear hS2))
  go_returns
  exact ⟨rfl, HS2.out, Gb.of hb2⟩
theorem set_any (S : Nat) (t x : ByteArray) (r a : Int) (v : Value) (w : World) (hS : Sc w S t r a v) (hx : x.size ≤ 100000) (hc : ∀ c ∈ x.data.toList, c.toNat < 128) :
    Calls Tryz.prog 118 #[.pointer (some ⟨S, 0, none⟩), .string x] w fun e w' => e = .returned (.tuple #[]) ∧ Sc w' S t (pgR r x) a v ∧ Gb S w w' := by
  unfold pgR
  by_cases h0 : pgT x = [117, 112, 112, 101, 114]
  · rw [if_pos h0]; exact set_u S t x r a v w hS hx hc h0
  · rw [if_neg h0]
    by_cases h1 : pgT x = [112, 111, 105, 110, 116]
    · rw [if_pos h1]; exact set_p S t x r a v w hS hx hc h0 h1
    · rw [if_neg h1]
      by_cases h2 : pgT x = [113, 117, 111, 116, 101]
      · rw [if_pos h2]; exact set_q S t x r a v w hS hx hc h0 h1 h2
      · rw [if_neg h2]; exact set_n S t x r a v w hS hx hc h0 h1 h2
end Go.Proofs.YtbnldpcbdeeflaaGreatDoor
