/- The scanner's step over a number. Condition: the scanner's block and its list lie in blocks of the call's own. -/
import Derived.Test.YtbnldpcbdeeflaaGreatDoorAr
namespace Go.Proofs.YtbnldpcbdeeflaaGreatDoor
open Go.ChangeShapes Go.WideShapes Go.ChangeAt Go.RowKit

theorem rn_all (f : Int → Bool) (hf : f 0 = false) (r : Int) (t : ByteArray) (i e : Nat) : ∀ c ∈ (rn f hf r t i e).1, ∃ k, c = cu (ch r t k) ∧ f (ch r t k) = true := by
  rw [rn]
  by_cases h : f (ch r t i) = true
  · rw [dif_pos h]
    have h1 := ch_lt hf h
    have h2 := sk_ge t (i + 1)
    have ih := rn_all f hf r t (sk t (i + 1)) (i + 1)
    intro c hc
    rcases List.mem_cons.1 hc with rfl | hc
    · exact ⟨i, rfl, h⟩
    · exact ih c hc
  · rw [dif_neg h]
    intro c hc
    cases hc
termination_by t.size - i
theorem cu_nat {c : Int} (h0 : 0 ≤ c) (h1 : c ≤ 255) : (cu c).toNat = c.toNat := by
  unfold cu
  rw [UInt8.toNat_ofNat']
  omega
theorem di_not (r : Int) (t : ByteArray) (a : Nat) : ∀ c ∈ (rnF bDi bDi0 r t a).1, c ≠ 114 := by
  intro c hc e
  obtain ⟨k, rfl, hk⟩ := rn_all bDi bDi0 r t _ _ c hc
  have hb := ch_bd r t k
  have hn := cu_nat hb.1 hb.2
  rw [e] at hn
  have h114 : (114 : UInt8).toNat = 114 := rfl
  unfold bDi at hk
  have := of_decide_eq_true hk
  omega
theorem rd_asc (r : Int) (t : ByteArray) (a : Nat) : ∀ c ∈ (rdF r t a).1, c.toNat < 128 := by
  unfold rdF
  split
  · intro c hc
    obtain ⟨k, rfl, hk⟩ := rn_all bHx bHx0 r t _ _ c hc
    have hb := ch_bd r t k
    rw [cu_nat hb.1 hb.2]
    unfold bHx at hk
    have := of_decide_eq_true hk
    omega
  · intro c hc
    cases hc
theorem nb_cases (r : Int) (t : ByteArray) (a : Nat) (hl : t.size ≤ 100000) : (nbF r t a).2.1.size ≤ 1000000 ∧ (((nbF r t a).1 = 5 ∧ (nbF r t a).2.1.data.toList = (rnF bDi bDi0 r t a).1 ++ 114 :: (rdF r t (rnF bDi bDi0 r t a).2).1) ∨ (nbF r t a).1 = 3 ∨ (nbF r t a).1 = 4) := by
  have hq := rnF_len bDi bDi0 r t a
  have hd := rdF_len r t (rnF bDi bDi0 r t a).2
  have hs : ∀ l : List UInt8, (ByteArray.mk l.toArray).size = l.length := fun l => by simp [ByteArray.size]
  unfold nbF
  split
  · unfold xnF
    have hm : (mnF r t (rnF bDi bDi0 r t a)).2.1.size ≤ 400000 ∧ ((mnF r t (rnF bDi bDi0 r t a)).1 = 3 ∨ (mnF r t (rnF bDi bDi0 r t a)).1 = 4) := by
      unfold mnF
      split
      · have hg := rnF_len bDi bDi0 r t (sk t (rnF bDi bDi0 r t a).2 + 1)
        refine ⟨?_, Or.inr rfl⟩
        show (_ ++ _ ++ _ : ByteArray).size ≤ _
        rw [ByteArray.size_append, ByteArray.size_append, show (⟨#[46]⟩ : ByteArray).size = 1 from rfl, hs, hs]
        omega
      · refine ⟨?_, Or.inl rfl⟩
        show (ByteArray.mk _).size ≤ _
        rw [hs]
        omega
    split
    · exact ⟨by omega, Or.inr hm.2⟩
    · have hx := exF_len r t (mnF r t (rnF bDi bDi0 r t a)).2.2
      refine ⟨?_, Or.inr (Or.inr rfl)⟩
      show (_ ++ _ : ByteArray).size ≤ _
      rw [ByteArray.size_append]
      omega
  · refine ⟨?_, Or.inl ⟨rfl, ?_⟩⟩
    · show (_ ++ _ ++ _ : ByteArray).size ≤ _
      rw [ByteArray.size_append, ByteArray.size_append, show (⟨#[114]⟩ : ByteArray).size = 1 from rfl, hs, hs]
      omega
    · simp
/-- What a number leaves. -/
def nuR (r : Int) (t : ByteArray) (a : Nat) (l : List Sy) : Rs :=
  if 100 < lc (nbF r t a).2.1 0 then ⟨r, a, l, a, 3⟩
  else if (nbF r t a).1 = 5 ∧ abF (rnF bDi bDi0 r t a).1 (rdF r t (rnF bDi bDi0 r t a).2).1 = false then ⟨r, a, l, a, 11⟩
  else ⟨r, (nbF r t a).2.2, l ++ [((nbF r t a).1, (nbF r t a).2.1, (a : Int))], 0, 0⟩
set_option maxHeartbeats 2000000 in
theorem nm_long (B S a : Nat) (t : ByteArray) (r : Int) (v : Value) (l : List Sy) (w : World) (hS : Sc w S t r (a : Int) v) (hL : Sl w B v l) (hB : B ≤ S) (hl : t.size ≤ 100000) (hll : l.length ≤ 1000000) (ha : a ≤ t.size) (hM : Mx w) (k : Int) (x : ByteArray) (z : Nat) (hn : nbF r t a = (k, x, z)) (n : Nat) (hx : lc x 0 = n) (hxs : x.size ≤ 1000000) (hbig : 100 < n) :
    Calls Tryz.prog 43 #[.pointer (some ⟨S, 0, none⟩)] w (Stp B S t w ⟨r, a, l, a, 3⟩) := by
  have hlt := hS.lt
  have c2 := hS.c2
  have h1 := nb_any t S a r v (w.alloc (.cells #[.int .i64 0, .int .i64 0] 26)) (Own.alloc hS _) hl ha
  rw [hn] at h1
  have H1 := Lib.hid h1
  have HLE := Lib.hid (fun W => letters_any x W hxs)
  rw [hx] at HLE
  have HF := Lib.hid (fun e W hb => fault_at c2 e W hb)
  have HS := Lib.hid hS
  have HL := Lib.hid hL
  clear h1 hS hL hM c2 hn hx hl hll ha
  go_enter Tryz.func43, Tryz.ntmps43
  go_wp2_with (first | (go_at_call 81; (with_reducible refine H1.out.mono ?_); rintro e w1 ⟨rfl, k1⟩; (have hb1 := Below.call ((Below.refl w.heap.size w).alloc (Nat.le_refl _) (.cells #[.int .i64 0, .int .i64 0] 26)) (by simp) k1); (have HR1 := Lib.hid ((Own.new w 26 [.int .i64 0, .int .i64 0]).kept k1))) | (go_at_call 82; (with_reducible refine (HLE.out _).mono ?_); rintro e w' ⟨rfl, rfl⟩) | (go_at_call 78; (with_reducible refine (HF.out 3 w1 hb1).mono ?_); rintro e wf ⟨rfl, kf⟩; (have hbf := Below.call hb1 hb1.size kf); (have hzf := hbf.size); (have hRf := HR1.out.kept kf); (have g0 : wf.cell? ⟨w.heap.size, 0, none⟩ = some (.int .i64 0) := Own.cell hRf 0); (have g1 : wf.cell? ⟨w.heap.size, 1, none⟩ = some (.int .i64 0) := Own.cell hRf 1); (have gf := fun i => Own.frozen hRf i); (have gl := Own.lt hRf); (have HRf := Lib.hid hRf); clear hRf))
  have hF := (HRf.out.put 0 (.int .i64 (a : Int))).put 1 (.int .i64 3)
  refine bodyPost_ret (ret_own rfl hF rfl Tryz.underlying26 rfl (by kernel_rfl)) rfl ?_
  have hB2 := (hbf.setCell (p := ⟨w.heap.size, 0, none⟩) (Nat.le_refl _) (.int .i64 (a : Int))).setCell (p := ⟨w.heap.size, 1, none⟩) (Nat.le_refl _) (.int .i64 3)
  exact Stp.gb HS.out HL.out hB rfl (Own.kept HS.out hB2) (Gb.of hB2)
set_option maxHeartbeats 2000000 in
theorem nm_bad (B S a : Nat) (t : ByteArray) (r : Int) (v : Value) (l : List Sy) (w : World) (hS : Sc w S t r (a : Int) v) (hL : Sl w B v l) (hB : B ≤ S) (hl : t.size ≤ 100000) (hll : l.length ≤ 1000000) (ha : a ≤ t.size) (hM : Mx w) (k : Int) (x : ByteArray) (z : Nat) (hn : nbF r t a = (k, x, z)) (n : Nat) (hx : lc x 0 = n) (hxs : x.size ≤ 1000000) (hbig : n ≤ 100) (ql dl : List UInt8) (hk : k = 5) (hs : x.data.toList = ql ++ 114 :: dl) (hdz : dl.length ≤ 1000000) (hq : ∀ c ∈ ql, c ≠ 114) (hd : ∀ c ∈ dl, c.toNat < 128) (hab : abF ql dl = false) :
    Calls Tryz.prog 43 #[.pointer (some ⟨S, 0, none⟩)] w (Stp B S t w ⟨r, a, l, a, 11⟩) := by
  have hlt := hS.lt
  have c2 := hS.c2
  have h1 := nb_any t S a r v (w.alloc (.cells #[.int .i64 0, .int .i64 0] 26)) (Own.alloc hS _) hl ha
  rw [hn] at h1
  have H1 := Lib.hid h1
  have HLE := Lib.hid (fun W => letters_any x W hxs)
  rw [hx] at HLE
  have HF := Lib.hid (fun e W hb => fault_at c2 e W hb)
  have HS := Lib.hid hS
  have HL := Lib.hid hL
  have HAB : Hid (∀ W, Below w.heap.size w W → Calls Tryz.prog 83 #[.string x] W fun e w' => e = .returned (.bool false) ∧ Below W.heap.size W w') := Lib.hid (fun W hb => by have := areBits_any x ql dl W hs hxs hdz hq hd (hM.call hb); rwa [hab] at this)
  subst hk
  clear h1 hS hL hM c2 hn hx hl hll ha hs hq hd hab
  go_enter Tryz.func43, Tryz.ntmps43
  go_wp2_with (first | (go_at_call 81; (with_reducible refine H1.out.mono ?_); rintro e w1 ⟨rfl, k1⟩; (have hb1 := Below.call ((Below.refl w.heap.size w).alloc (Nat.le_refl _) (.cells #[.int .i64 0, .int .i64 0] 26)) (by simp) k1); (have HR1 := Lib.hid ((Own.new w 26 [.int .i64 0, .int .i64 0]).kept k1))) | (go_at_call 82; (with_reducible refine (HLE.out _).mono ?_); rintro e w' ⟨rfl, rfl⟩) | (go_at_call 83; (with_reducible refine (HAB.out w1 hb1).mono ?_); rintro e w2 ⟨rfl, k2⟩; (have hb2 := Below.call hb1 hb1.size k2); (have HR2 := Lib.hid (HR1.out.kept k2))) | (go_at_call 78; (with_reducible refine (HF.out 11 w2 hb2).mono ?_); rintro e wf ⟨rfl, kf⟩; (have hbf := Below.call hb2 hb2.size kf); (have hzf := hbf.size); (have hRf := HR2.out.kept kf); (have g0 : wf.cell? ⟨w.heap.size, 0, none⟩ = some (.int .i64 0) := Own.cell hRf 0); (have g1 : wf.cell? ⟨w.heap.size, 1, none⟩ = some (.int .i64 0) := Own.cell hRf 1); (have gf := fun i => Own.frozen hRf i); (have gl := Own.lt hRf); (have HRf := Lib.hid hRf); clear hRf))
  have hF := (HRf.out.put 0 (.int .i64 (a : Int))).put 1 (.int .i64 11)
  refine bodyPost_ret (ret_own rfl hF rfl Tryz.underlying26 rfl (by kernel_rfl)) rfl ?_
  have hB2 := (hbf.setCell (p := ⟨w.heap.size, 0, none⟩) (Nat.le_refl _) (.int .i64 (a : Int))).setCell (p := ⟨w.heap.size, 1, none⟩) (Nat.le_refl _) (.int .i64 11)
  exact Stp.gb HS.out HL.out hB rfl (Own.kept HS.out hB2) (Gb.of hB2)
set_option maxHeartbeats 2000000 in
theorem nm_bits (B S a : Nat) (t : ByteArray) (r : Int) (v : Value) (l : List Sy) (w : World) (hS : Sc w S t r (a : Int) v) (hL : Sl w B v l) (hB : B ≤ S) (hl : t.size ≤ 100000) (hll : l.length ≤ 1000000) (ha : a ≤ t.size) (hM : Mx w) (k : Int) (x : ByteArray) (z : Nat) (hn : nbF r t a = (k, x, z)) (n : Nat) (hx : lc x 0 = n) (hxs : x.size ≤ 1000000) (hbig : n ≤ 100) (ql dl : List UInt8) (hk : k = 5) (hs : x.data.toList = ql ++ 114 :: dl) (hdz : dl.length ≤ 1000000) (hq : ∀ c ∈ ql, c ≠ 114) (hd : ∀ c ∈ dl, c.toNat < 128) (hab : abF ql dl = true) :
    Calls Tryz.prog 43 #[.pointer (some ⟨S, 0, none⟩)] w (Stp B S t w ⟨r, z, l ++ [(k, x, (a : Int))], 0, 0⟩) := by
  have hlt := hS.lt
  have c2 := hS.c2
  have h1 := nb_any t S a r v (w.alloc (.cells #[.int .i64 0, .int .i64 0] 26)) (Own.alloc hS _) hl ha
  rw [hn] at h1
  have H1 := Lib.hid h1
  have HLE := Lib.hid (fun W => letters_any x W hxs)
  rw [hx] at HLE
  have HAB : Hid (∀ W, Below w.heap.size w W → Calls Tryz.prog 83 #[.string x] W fun e w' => e = .returned (.bool true) ∧ Below W.heap.size W w') := Lib.hid (fun W hb => by have := areBits_any x ql dl W hs hxs hdz hq hd (hM.call hb); rwa [hab] at this)
  subst hk
  have HS := Lib.hid hS
  have HA : Hid (∀ W, Below w.heap.size w W → Calls Tryz.prog 80 #[.pointer (some ⟨S, 0, none⟩), .int .i64 5, .string x, .int .i64 (z : Int)] W fun e w' => e = .returned (.agg #[.int .i64 0, .int .i64 0]) ∧ (∃ v', Sc w' S t r (z : Int) v' ∧ Sl w' B v' (l ++ [(5, x, (a : Int))])) ∧ Below B W w' ∧ Ot S v W w') := Lib.hid (fun W hb => add_any B S t r a 5 z x v l W (Own.kept hS hb) (hL.gb (Sl.ne hL hS (by decide)) (Gb.of hb)) hB hll)
  have HNV : Hid (v.ownBlock ≠ some w.heap.size) := Lib.hid (fun e => absurd (World.ownsRow.lt hL _ e).2 (Nat.lt_irrefl _))
  clear h1 hS hL hM c2 hn hx hl hll ha hs hq hd hab
  go_enter Tryz.func43, Tryz.ntmps43
  go_wp2_with (first | (go_at_call 81; (with_reducible refine H1.out.mono ?_); rintro e w1 ⟨rfl, k1⟩; (have hb1 := Below.call ((Below.refl w.heap.size w).alloc (Nat.le_refl _) (.cells #[.int .i64 0, .int .i64 0] 26)) (by simp) k1); (have HR1 := Lib.hid ((Own.new w 26 [.int .i64 0, .int .i64 0]).kept k1))) | (go_at_call 82; (with_reducible refine (HLE.out _).mono ?_); rintro e w' ⟨rfl, rfl⟩) | (go_at_call 83; (with_reducible refine (HAB.out w1 hb1).mono ?_); rintro e w2 ⟨rfl, k2⟩; (have hb2 := Below.call hb1 hb1.size k2); (have HR2 := Lib.hid (HR1.out.kept k2))) | (go_at_call 80; (with_reducible refine (HA.out w2 hb2).mono ?_)))
  rintro e w3 ⟨rfl, ⟨v3, hS3, hL3⟩, hb3, ho3⟩
  have hzi := hb2.size
  have hz3 := hb3.size
  have hR3 := HR2.out.ot ho3 (by omega) HNV.out
  have g0 : w3.cell? ⟨w.heap.size, 0, none⟩ = some (.int .i64 0) := Own.cell hR3 0
  have g1 : w3.cell? ⟨w.heap.size, 1, none⟩ = some (.int .i64 0) := Own.cell hR3 1
  have gf := fun i => Own.frozen hR3 i
  have gl := Own.lt hR3
  have HR3 := Lib.hid hR3
  have HS3 := Lib.hid hS3
  have HL3 := Lib.hid hL3
  have hne2 : S ≠ w.heap.size := by omega
  clear hR3 hS3 hL3
  go_wp2_with fail
  have hF := (HR3.out.put 0 (.int .i64 0)).put 1 (.int .i64 0)
  refine bodyPost_ret (ret_own rfl hF rfl Tryz.underlying26 rfl (by kernel_rfl)) rfl ?_
  have n2 := Sl.ne HL3.out HR3.out (by decide)
  exact ⟨rfl, ⟨v3, (Own.far HS3.out hne2 _).far hne2 _, (HL3.out.far n2 _).far n2 _⟩, (((hb2.mono (by omega)).trans hb3).setCell (p := ⟨w.heap.size, 0, none⟩) (by show B ≤ w.heap.size; omega) _).setCell (p := ⟨w.heap.size, 1, none⟩) (by show B ≤ w.heap.size; omega) _, Kp.add HS.out hb2 ho3 _ _⟩
set_option maxHeartbeats 2000000 in
theorem nm_plain (B S a : Nat) (t : ByteArray) (r : Int) (v : Value) (l : List Sy) (w : World) (hS : Sc w S t r (a : Int) v) (hL : Sl w B v l) (hB : B ≤ S) (hl : t.size ≤ 100000) (hll : l.length ≤ 1000000) (ha : a ≤ t.size) (hM : Mx w) (k : Int) (x : ByteArray) (z : Nat) (hn : nbF r t a = (k, x, z)) (n : Nat) (hx : lc x 0 = n) (hxs : x.size ≤ 1000000) (hbig : n ≤ 100) (hk : k = 3 ∨ k = 4) :
    Calls Tryz.prog 43 #[.pointer (some ⟨S, 0, none⟩)] w (Stp B S t w ⟨r, z, l ++ [(k, x, (a : Int))], 0, 0⟩) := by
  have hlt := hS.lt
  have c2 := hS.c2
  have h1 := nb_any t S a r v (w.alloc (.cells #[.int .i64 0, .int .i64 0] 26)) (Own.alloc hS _) hl ha
  rw [hn] at h1
  have H1 := Lib.hid h1
  have HLE := Lib.hid (fun W => letters_any x W hxs)
  rw [hx] at HLE
  have HS := Lib.hid hS
  have HA : Hid (∀ W, Below w.heap.size w W → Calls Tryz.prog 80 #[.pointer (some ⟨S, 0, none⟩), .int .i64 k, .string x, .int .i64 (z : Int)] W fun e w' => e = .returned (.agg #[.int .i64 0, .int .i64 0]) ∧ (∃ v', Sc w' S t r (z : Int) v' ∧ Sl w' B v' (l ++ [(k, x, (a : Int))])) ∧ Below B W w' ∧ Ot S v W w') := Lib.hid (fun W hb => add_any B S t r a k z x v l W (Own.kept hS hb) (hL.gb (Sl.ne hL hS (by decide)) (Gb.of hb)) hB hll)
  have HNV : Hid (v.ownBlock ≠ some w.heap.size) := Lib.hid (fun e => absurd (World.ownsRow.lt hL _ e).2 (Nat.lt_irrefl _))
  have hkb : (k == 5) = false := by rw [beq_eq_false_iff_ne]; omega
  clear h1 hS hL hM c2 hn hx hl hll ha hk
  go_enter Tryz.func43, Tryz.ntmps43
  go_wp2_with (first | (go_at_call 81; (with_reducible refine H1.out.mono ?_); rintro e w1 ⟨rfl, k1⟩; (have hb1 := Below.call ((Below.refl w.heap.size w).alloc (Nat.le_refl _) (.cells #[.int .i64 0, .int .i64 0] 26)) (by simp) k1); (have HR1 := Lib.hid ((Own.new w 26 [.int .i64 0, .int .i64 0]).kept k1))) | (go_at_call 82; (with_reducible refine (HLE.out _).mono ?_); rintro e w' ⟨rfl, rfl⟩) | (go_at_call 80; (with_reducible refine (HA.out w1 hb1).mono ?_)))
  rintro e w3 ⟨rfl, ⟨v3, hS3, hL3⟩, hb3, ho3⟩
  have hzi := hb1.size
  have hz3 := hb3.size
  have hR3 := HR1.out.ot ho3 (by omega) HNV.out
  have g0 : w3.cell? ⟨w.heap.size, 0, none⟩ = some (.int .i64 0) := Own.cell hR3 0
  have g1 : w3.cell? ⟨w.heap.size, 1, none⟩ = some (.int .i64 0) := Own.cell hR3 1
  have gf := fun i => Own.frozen hR3 i
  have gl := Own.lt hR3
  have HR3 := Lib.hid hR3
  have HS3 := Lib.hid hS3
  have HL3 := Lib.hid hL3
  have hne2 : S ≠ w.heap.size := by omega
  clear hR3 hS3 hL3
  go_wp2_with fail
  have hF := (HR3.out.put 0 (.int .i64 0)).put 1 (.int .i64 0)
  refine bodyPost_ret (ret_own rfl hF rfl Tryz.underlying26 rfl (by kernel_rfl)) rfl ?_
  have n2 := Sl.ne HL3.out HR3.out (by decide)
  exact ⟨rfl, ⟨v3, (Own.far HS3.out hne2 _).far hne2 _, (HL3.out.far n2 _).far n2 _⟩, (((hb1.mono (by omega)).trans hb3).setCell (p := ⟨w.heap.size, 0, none⟩) (by show B ≤ w.heap.size; omega) _).setCell (p := ⟨w.heap.size, 1, none⟩) (by show B ≤ w.heap.size; omega) _, Kp.add HS.out hb1 ho3 _ _⟩
theorem number_any (B S a : Nat) (t : ByteArray) (r : Int) (v : Value) (l : List Sy) (w : World) (hS : Sc w S t r (a : Int) v) (hL : Sl w B v l) (hB : B ≤ S) (hl : t.size ≤ 100000) (hll : l.length ≤ 1000000) (ha : a ≤ t.size) (hM : Mx w) :
    Calls Tryz.prog 43 #[.pointer (some ⟨S, 0, none⟩)] w (Stp B S t w (nuR r t a l)) := by
  have hc := nb_cases r t a hl
  have hdz : (rdF r t (rnF bDi bDi0 r t a).2).1.length ≤ 1000000 := by have := rdF_len r t (rnF bDi bDi0 r t a).2; omega
  unfold nuR
  obtain ⟨⟨k, x, z⟩, hn⟩ : ∃ n, nbF r t a = n := ⟨_, rfl⟩
  rw [hn] at hc ⊢
  simp only at hc ⊢
  by_cases hbig : 100 < lc x 0
  · rw [if_pos hbig]
    exact nm_long B S a t r v l w hS hL hB hl hll ha hM k x z hn _ rfl hc.1 hbig
  · rw [if_neg hbig]
    rcases hc.2 with ⟨hk, hs⟩ | hk
    · cases hab : abF (rnF bDi bDi0 r t a).1 (rdF r t (rnF bDi bDi0 r t a).2).1
      · rw [if_pos ⟨hk, rfl⟩]
        exact nm_bad B S a t r v l w hS hL hB hl hll ha hM k x z hn _ rfl hc.1 (by omega) _ _ hk hs hdz (di_not r t a) (rd_asc r t _) hab
      · rw [if_neg (fun h => by cases h.2)]
        exact nm_bits B S a t r v l w hS hL hB hl hll ha hM k x z hn _ rfl hc.1 (by omega) _ _ hk hs hdz (di_not r t a) (rd_asc r t _) hab
    · rw [if_neg (fun h => by omega)]
      exact nm_plain B S a t r v l w hS hL hB hl hll ha hM k x z hn _ rfl hc.1 (by omega) hk
end Go.Proofs.YtbnldpcbdeeflaaGreatDoor
