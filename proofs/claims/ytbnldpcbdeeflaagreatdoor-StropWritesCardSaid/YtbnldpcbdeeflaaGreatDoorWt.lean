/- Text: the text of a list of few symbols with short texts. Conditions: at most 80 symbols, each text of at most 200 bytes; the tables hold what they are laid with. -/
import Derived.Test.YtbnldpcbdeeflaaGreatDoorGMt
namespace Go.Proofs.YtbnldpcbdeeflaaGreatDoor
open Go.ChangeShapes Go.WideShapes Go.ChangeAt Go.RowKit

theorem text_arg (v : Value) (r : Int) (w : World) (h : ¬ (0 ≤ r ∧ r ≤ 2)) :
    Calls Tryz.prog 16 #[v, .int .i64 r] w fun e w' => e = .returned (.tuple #[.string ⟨#[]⟩, .int .i64 1]) ∧ Below w.heap.size w w' := by
  have HRG := Lib.hid (fun W => reg_any r W)
  rw [decide_eq_false h] at HRG
  clear h
  go_enter Tryz.func16, Tryz.ntmps16
  go_wp2_with (first | (go_at_call 20; (with_reducible refine (HRG.out _).mono ?_); rintro e w' ⟨rfl, rfl⟩))
  go_returns
  exact ⟨rfl, (by repeat' (first | (with_reducible assumption) | (with_reducible exact Below.refl _ _) | (with_reducible refine Below.alloc ?_ ?_ _) | (with_reducible refine Below.setCell ?_ ?_ _) | (with_reducible refine Below.drew ?_) | (with_reducible refine Below.call ?_ ?_ (by assumption)) | (with_reducible exact Nat.le_refl _) | omega | (simp; done) | (simp; omega)))⟩
set_option maxRecDepth 100000 in
set_option maxHeartbeats 8000000 in
theorem text_nil (r : Int) (w : World) (h : 0 ≤ r ∧ r ≤ 2) :
    Calls Tryz.prog 16 #[.slice none 0 0, .int .i64 r] w fun e w' => e = .returned (.tuple #[.string ⟨#[]⟩, .int .i64 0]) ∧ Below w.heap.size w w' := by
  have HRG := Lib.hid (fun W => reg_any r W)
  rw [decide_eq_true h] at HRG
  have HBU : Hid (Lib.IsBuilder 54 5 w.heap.size w.heap.size (Lib.byteCells []) (w.alloc (.cells #[.pointer none, .slice none 0 0] 54))) := Lib.hid (Lib.fresh_isBuilder _ _ _)
  clear h
  go_enter Tryz.func16, Tryz.ntmps16
  go_wp2_with (first | (go_at_call 20; (with_reducible refine (HRG.out _).mono ?_); rintro e w' ⟨rfl, rfl⟩))
  go_loopw [15] (fun v15 wr => v15 = .int .i64 0 ∧ Lib.IsBuilder 54 5 w.heap.size w.heap.size (Lib.byteCells []) wr ∧ Below w.heap.size w wr) (fun v15 _ => 0)
  case atStart => exact ⟨rfl, HBU.out, (Below.refl _ w).alloc (Nat.le_refl _) _⟩
  case round =>
    obtain ⟨rfl, hbu, hb⟩ := hrel
    have HB := Lib.hid hb
    have hz := hb.size
    have HBU0 := Lib.hid hbu
    clear hbu hb
    go_wp2_with (first | (go_at_call 26; (with_reducible refine (bu_len w.heap.size w.heap.size [] wr HBU0.out (by decide)).mono ?_); rintro e6 w6 ⟨rfl, rfl⟩) | (go_at_call 29; (with_reducible refine (Tryz.Builder_String_any w.heap.size w.heap.size [] wr HBU0.out hz).mono ?_); (rintro e9 w9 ⟨rfl, hb9⟩)))
    go_ret2
    exact ⟨rfl, HB.out.trans hb9⟩
set_option maxRecDepth 100000 in
set_option maxHeartbeats 16000000 in
theorem text_off (g o cap : Nat) (l : List Sy) (r : Int) (w : World) (h : Wo w) (hr : 0 ≤ r ∧ r ≤ 2) (hn : l.length ≤ 1000) (hzs : ∀ s ∈ l, s.2.1.size ≤ 400) (hlt : ∀ i, i ≤ l.length → (txB r l i).length ≤ 60000) (hcap : l.length ≤ cap) (hg2 : g < w.heap.size) (hgc : ∀ j u, (sy l)[j]? = some u → w.cell? ⟨g, o + j, none⟩ = some u) (R : ByteArray × Int) (hR : txR r l 0 = R) :
    Calls Tryz.prog 16 #[.slice (some ⟨g, o, none⟩) l.length cap, .int .i64 r] w fun e w' => e = .returned (.tuple #[.string R.1, .int .i64 R.2]) ∧ Below w.heap.size w w' := by
  have HRG := Lib.hid (fun W => reg_any r W)
  rw [decide_eq_true hr] at HRG
  have HWO := Lib.hid (fun (W : World) (hb : Below w.heap.size w W) => h.call hb)
  have HGC := Lib.hid hgc
  have HZS := Lib.hid hzs
  have HLT := Lib.hid hlt
  clear hlt
  have HBU : Hid (Lib.IsBuilder 54 5 w.heap.size w.heap.size (Lib.byteCells []) (w.alloc (.cells #[.pointer none, .slice none 0 0] 54))) := Lib.hid (Lib.fresh_isBuilder _ _ _)
  clear h hgc hzs hr
  go_enter Tryz.func16, Tryz.ntmps16
  go_wp2_with (first | (go_at_call 20; (with_reducible refine (HRG.out _).mono ?_); rintro e w' ⟨rfl, rfl⟩))
  go_loopw [15] (fun v15 wr => ∃ i : Nat, i ≤ l.length ∧ v15 = .int .i64 i ∧ Lib.IsBuilder 54 5 w.heap.size w.heap.size (Lib.byteCells (txB r l i)) wr ∧ Below w.heap.size w wr ∧ txR r l i = R) (fun v15 _ => l.length + 1 - (intOf v15).toNat)
  case atStart => exact ⟨0, Nat.zero_le _, rfl, HBU.out, (Below.refl _ w).alloc (Nat.le_refl _) _, hR⟩
  case round =>
    obtain ⟨i, hi, rfl, hbu, hb, hRi⟩ := hrel
    have hz := hb.size
    have HB := Lib.hid hb
    have hLz := HLT.out i hi
    obtain ⟨L, hL⟩ : ∃ L, txB r l i = L := ⟨_, rfl⟩
    rw [hL] at hbu hLz
    have HBU0 := Lib.hid hbu
    have hgr : g < wr.heap.size := by omega
    by_cases hil : i < l.length
    · obtain ⟨s, hs⟩ : ∃ s, l[i]? = some s := ⟨l[i], List.getElem?_eq_getElem hil⟩
      have hsa := sA_eq hs
      have hxz := HZS.out s (List.mem_of_getElem? hs)
      obtain ⟨s1, s2, s3⟩ := sy_at l i s hs
      have a0 : wr.cell? ⟨g, o + i * 3, none⟩ = some (.int .i64 s.1) := (hb.cell (p := ⟨g, o + i * 3, none⟩) hg2).trans (HGC.out _ _ s1)
      have a1 : wr.cell? ⟨g, o + i * 3 + 1, none⟩ = some (.string s.2.1) := (hb.cell (p := ⟨g, o + i * 3 + 1, none⟩) hg2).trans (HGC.out _ _ s2)
      have a2 : wr.cell? ⟨g, o + i * 3 + 2, none⟩ = some (.int .i64 s.2.2) := (hb.cell (p := ⟨g, o + i * 3 + 2, none⟩) hg2).trans (HGC.out _ _ s3)
      have hbad := tx_bad (r := r) (l := l) hil
      have hend := tx_end (r := r) (l := l) hil
      have hgo := tx_go (r := r) (l := l) hil
      rw [hsa] at hbad hend hgo
      obtain ⟨k, x, p⟩ := s
      simp only at a0 a1 a2 hbad hend hgo hxz
      have hdq := dbQ_size x
      have HC := Lib.hid (fun (W : World) (hb : Below w.heap.size w W) => check_any k x p W (by omega) (by omega) (HWO.out W hb))
      clear s1 s2 s3 hs
      by_cases hc : chF k x = 0
      · rw [hc] at HC
        by_cases hk : k = 0
        · have hRe := hend hc hk
          rw [hRi, hL] at hRe
          subst hRe
          subst hk
          clear hbad hend hgo hRi hL hbu hb hsa hc hR HZS
          go_wp2_with (first | (go_at_call 14; (with_reducible refine (HC.out _ (HB.out.alloc (by omega) _)).mono ?_); (rintro e5 w5 ⟨rfl, hb5⟩); (have hba : Below wr.heap.size wr w5 := ((Below.refl wr.heap.size wr).alloc (Nat.le_refl _) _).trans (hb5.mono (by simp))); (have HB5 : Hid (Below w.heap.size w w5) := Lib.hid (HB.out.trans (hba.mono hz))); (have HBU5 : Hid (Lib.IsBuilder 54 5 w.heap.size w.heap.size (Lib.byteCells L) w5) := Lib.hid (bu_kept HBU0.out hba)); (have hz5 := HB5.out.size); (have hy5 : wr.heap.size < w5.heap.size := by (have := hb5.size; simp at this; omega)); (have s0 : w5.cell? ⟨wr.heap.size, 0, none⟩ = some (.int .i64 0) := (hb5.cell (p := ⟨wr.heap.size, 0, none⟩) (by simp)).trans (Own.cell (Own.new wr 31 [.int .i64 0, .string x, .int .i64 p]) 0)); (have s1 : w5.cell? ⟨wr.heap.size, 1, none⟩ = some (.string x) := (hb5.cell (p := ⟨wr.heap.size, 1, none⟩) (by simp)).trans (Own.cell (Own.new wr 31 [.int .i64 0, .string x, .int .i64 p]) 1)); (have s2 : w5.cell? ⟨wr.heap.size, 2, none⟩ = some (.int .i64 p) := (hb5.cell (p := ⟨wr.heap.size, 2, none⟩) (by simp)).trans (Own.cell (Own.new wr 31 [.int .i64 0, .string x, .int .i64 p]) 2)); (have HS5 := Lib.hid (And.intro s0 (And.intro s1 s2))); clear hb5 hba) | (go_at_call 26; (with_reducible refine (bu_len w.heap.size w.heap.size L w5 HBU5.out (by omega)).mono ?_); rintro e6 w6 ⟨rfl, rfl⟩) | (go_at_call 29; (with_reducible refine (Tryz.Builder_String_any w.heap.size w.heap.size L w5 HBU5.out hz5).mono ?_); (rintro e9 w9 ⟨rfl, hb9⟩)))
          go_ret2
          exact ⟨rfl, HB5.out.trans hb9⟩
        · have hRn := (hgo hc hk).symm.trans hRi
          have hk0 : (k == 0) = false := by rw [beq_eq_false_iff_ne]; exact hk
          have HW := Lib.hid (fun (W : World) (hb : Below w.heap.size w W) => written_any k x p r W (by omega) (by omega) (fun e _ => by subst e; exact ch_bold hc) (HWO.out W hb).1)
          have hyp := wr_pos (r := r) hc hk
          have hyz := wrF_size k r x
          obtain ⟨Y, hY⟩ : ∃ Y, wrF k r x = Y := ⟨_, rfl⟩
          rw [hY] at HW hyp hyz
          rcases i with _ | j
          · have hLe : L = [] := hL.symm
            have a0' : wr.cell? ⟨g, o, none⟩ = some (.int .i64 k) := a0
            have a1' : wr.cell? ⟨g, o + 1, none⟩ = some (.string x) := a1
            have a2' : wr.cell? ⟨g, o + 2, none⟩ = some (.int .i64 p) := a2
            clear a0 a1 a2
            subst hLe
            have HT : Hid (txB r l (0 + 1) = [] ++ Y.data.toList) := Lib.hid (by rw [txB_one, hsa]; exact congrArg (fun z : ByteArray => [] ++ z.data.toList) hY)
            clear hbad hend hgo hRi hL hbu hb hsa hc hR HZS hY
            go_wp2_with (first | (go_at_call 14; (with_reducible refine (HC.out _ (HB.out.alloc (by omega) _)).mono ?_); (rintro e5 w5 ⟨rfl, hb5⟩); (have hba : Below wr.heap.size wr w5 := ((Below.refl wr.heap.size wr).alloc (Nat.le_refl _) _).trans (hb5.mono (by simp))); (have HB5 : Hid (Below w.heap.size w w5) := Lib.hid (HB.out.trans (hba.mono hz))); (have HBU5 : Hid (Lib.IsBuilder 54 5 w.heap.size w.heap.size (Lib.byteCells []) w5) := Lib.hid (bu_kept HBU0.out hba)); (have hz5 := HB5.out.size); (have hy5 : wr.heap.size < w5.heap.size := by (have := hb5.size; simp at this; omega)); (have s0 : w5.cell? ⟨wr.heap.size, 0, none⟩ = some (.int .i64 k) := (hb5.cell (p := ⟨wr.heap.size, 0, none⟩) (by simp)).trans (Own.cell (Own.new wr 31 [.int .i64 k, .string x, .int .i64 p]) 0)); (have s1 : w5.cell? ⟨wr.heap.size, 1, none⟩ = some (.string x) := (hb5.cell (p := ⟨wr.heap.size, 1, none⟩) (by simp)).trans (Own.cell (Own.new wr 31 [.int .i64 k, .string x, .int .i64 p]) 1)); (have s2 : w5.cell? ⟨wr.heap.size, 2, none⟩ = some (.int .i64 p) := (hb5.cell (p := ⟨wr.heap.size, 2, none⟩) (by simp)).trans (Own.cell (Own.new wr 31 [.int .i64 k, .string x, .int .i64 p]) 2)); (have HS5 := Lib.hid (And.intro s0 (And.intro s1 s2))); clear hb5 hba) | (go_at_call 26; (with_reducible refine (bu_len w.heap.size w.heap.size [] w5 HBU5.out (by omega)).mono ?_); rintro e6 w6 ⟨rfl, rfl⟩) | (go_at_call 24; (with_reducible refine (HW.out _ HB5.out).mono ?_); (rintro e7 w7 ⟨rfl, hb7⟩); (have hz7 := hb7.size); (have HB7 : Hid (Below w.heap.size w w7) := Lib.hid (HB5.out.trans (hb7.mono hz5))); (have HBU7 : Hid (Lib.IsBuilder 54 5 w.heap.size w.heap.size (Lib.byteCells []) w7) := Lib.hid (bu_kept HBU5.out hb7))) | (go_at_call 27; (with_reducible refine (bu_wstr w.heap.size w.heap.size [] Y w7 HBU7.out (by (try simp only [List.length_append, hzl]); omega) (by omega) (by omega) HB7.out.size).mono ?_); (rintro e8 w8 ⟨rfl, hbu8, hb8, _⟩)))
            go_roundw
            case rel => exact ⟨0 + 1, by omega, rfl, by rw [HT.out]; exact hbu8, HB7.out.trans hb8, hRn⟩
            case measure => simp [intOf]
          · obtain ⟨s0, hs0⟩ : ∃ s, l[j]? = some s := ⟨l[j], List.getElem?_eq_getElem (by omega)⟩
            have hsa0 := sA_eq hs0
            obtain ⟨s1, s2, s3⟩ := sy_at l j s0 hs0
            have p0 : wr.cell? ⟨g, o + j * 3, none⟩ = some (.int .i64 s0.1) := (hb.cell (p := ⟨g, o + j * 3, none⟩) hg2).trans (HGC.out _ _ s1)
            have p1 : wr.cell? ⟨g, o + j * 3 + 1, none⟩ = some (.string s0.2.1) := (hb.cell (p := ⟨g, o + j * 3 + 1, none⟩) hg2).trans (HGC.out _ _ s2)
            have p2 : wr.cell? ⟨g, o + j * 3 + 2, none⟩ = some (.int .i64 s0.2.2) := (hb.cell (p := ⟨g, o + j * 3 + 2, none⟩) hg2).trans (HGC.out _ _ s3)
            obtain ⟨k0, x0, q0⟩ := s0
            simp only at p0 p1 p2
            have HSP := Lib.hid (fun W => space_any k0 x0 q0 k x p W)
            have hzp := spF_size k0 k
            obtain ⟨Z, hZ⟩ : ∃ Z, spF k0 k = Z := ⟨_, rfl⟩
            rw [hZ] at HSP hzp
            obtain ⟨hz4, hz0⟩ := hzp
            have HT : Hid (txB r l (j + 1 + 1) = L ++ Z.data.toList ++ Y.data.toList) := Lib.hid (by rw [txB_more, hL, hsa, hsa0]; show L ++ (spF k0 k).data.toList ++ (wrF k r x).data.toList = _; rw [hZ, hY])
            obtain ⟨v0, hv0, hbl, hvl⟩ := bu_buf hbu
            have HV0 := Lib.hid hv0
            have HVL := Lib.hid hvl
            have hzl : Z.data.toList.length = Z.size := Array.length_toList
            have HZL := Lib.hid hzl
            clear hbad hend hgo hRi hL hbu hb hsa hc hR HZS hY hZ hsa0 s1 s2 s3 hs0 hv0 hvl hzl
            have hw1 : IntKind.i64.wrap ((j : Int) + 1 - 1) = (j : Int) := by (have e : (j : Int) + 1 - 1 = (j : Int) := by omega); rw [e]; exact IntWalk.i64_in _ (by omega)
            have hw2 : IntKind.i64.wrap (j : Int) = (j : Int) := IntWalk.i64_in _ (by omega)
            have hjl : j < l.length := by omega
            have hjl2 : (j : Int) < (l.length : Int) := by omega
            go_upto_region 13 with (first | (go_at_call 14; (with_reducible refine (HC.out _ (HB.out.alloc (by omega) _)).mono ?_); (rintro e5 w5 ⟨rfl, hb5⟩); (have hba : Below wr.heap.size wr w5 := ((Below.refl wr.heap.size wr).alloc (Nat.le_refl _) _).trans (hb5.mono (by simp))); (have HB5 : Hid (Below w.heap.size w w5) := Lib.hid (HB.out.trans (hba.mono hz))); (have HBU5 : Hid (Lib.IsBuilder 54 5 w.heap.size w.heap.size (Lib.byteCells L) w5) := Lib.hid (bu_kept HBU0.out hba)); (have hz5 := HB5.out.size); (have hy5 : wr.heap.size < w5.heap.size := by (have := hb5.size; simp at this; omega)); (have s0 : w5.cell? ⟨wr.heap.size, 0, none⟩ = some (.int .i64 k) := (hb5.cell (p := ⟨wr.heap.size, 0, none⟩) (by simp)).trans (Own.cell (Own.new wr 31 [.int .i64 k, .string x, .int .i64 p]) 0)); (have s1 : w5.cell? ⟨wr.heap.size, 1, none⟩ = some (.string x) := (hb5.cell (p := ⟨wr.heap.size, 1, none⟩) (by simp)).trans (Own.cell (Own.new wr 31 [.int .i64 k, .string x, .int .i64 p]) 1)); (have s2 : w5.cell? ⟨wr.heap.size, 2, none⟩ = some (.int .i64 p) := (hb5.cell (p := ⟨wr.heap.size, 2, none⟩) (by simp)).trans (Own.cell (Own.new wr 31 [.int .i64 k, .string x, .int .i64 p]) 2)); (have HS5 := Lib.hid (And.intro s0 (And.intro s1 s2))); (have t0 := (hba.cell (p := ⟨g, o + j * 3, none⟩) hgr).trans p0); (have t1 := (hba.cell (p := ⟨g, o + j * 3 + 1, none⟩) hgr).trans p1); (have t2 := (hba.cell (p := ⟨g, o + j * 3 + 2, none⟩) hgr).trans p2); (have HC5 := Lib.hid (hba.cell (p := ⟨w.heap.size, 1, none⟩) (by show w.heap.size < wr.heap.size; omega))); clear hb5 hba) | (go_at_call 26; (with_reducible refine (bu_len w.heap.size w.heap.size L w5 HBU5.out (by omega)).mono ?_); rintro e6 w6 ⟨rfl, rfl⟩))
            go_region_with (first | (go_at_call 28; (with_reducible refine (HSP.out _).mono ?_); (rintro e7 w7 ⟨rfl, hb7⟩); (have hb7d : Below w5.heap.size w5 w7 := (Below.refl w5.heap.size w5).drew.trans hb7); (have hz7 := hb7d.size); (have HB7 : Hid (Below w.heap.size w w7) := Lib.hid (HB5.out.trans (hb7d.mono hz5))); (have HBU7 : Hid (Lib.IsBuilder 54 5 w.heap.size w.heap.size (Lib.byteCells L) w7) := Lib.hid (bu_kept HBU5.out hb7d)); (have HK7 := Lib.hid hb7d); clear hb7 hb7d) | (go_at_call 27; (with_reducible refine (bu_wstr w.heap.size w.heap.size (L) Z w7 HBU7.out (by omega) (by omega) (by omega) HB7.out.size).mono ?_); (rintro e8 w8 ⟨rfl, hbu8, hb8, ho8⟩); (have hwk : w8.heap[wr.heap.size]? = w5.heap[wr.heap.size]? := (ho8 v0 (((HK7.out.cell (p := ⟨w.heap.size, 1, none⟩) (by show w.heap.size < w5.heap.size; omega)).trans HC5.out).trans HV0.out) wr.heap.size (by omega) (by omega) (fun e => absurd (HVL.out _ e) (Nat.lt_irrefl _))).trans (HK7.out.block wr.heap.size hy5)); (have r0 : w8.cell? ⟨wr.heap.size, 0, none⟩ = some (.int .i64 k) := (cell_heap hwk 0).trans HS5.out.1); (have r1 : w8.cell? ⟨wr.heap.size, 1, none⟩ = some (.string x) := (cell_heap hwk 1).trans HS5.out.2.1); (have r2 : w8.cell? ⟨wr.heap.size, 2, none⟩ = some (.int .i64 p) := (cell_heap hwk 2).trans HS5.out.2.2); (have HB8 := Lib.hid (HB7.out.trans hb8)); (have HBU8 := Lib.hid hbu8); (have hz8 := HB8.out.size); clear hwk hb8 hbu8 ho8))
            all_goals
              go_wp2_with (first | (go_at_call 24; (with_reducible refine (HW.out _ HB8.out).mono ?_); (rintro e9 w9 ⟨rfl, hb9⟩); (have hz9 := hb9.size); (have HB9 : Hid (Below w.heap.size w w9) := Lib.hid (HB8.out.trans (hb9.mono hz8))); (have HBU9 : Hid (Lib.IsBuilder 54 5 w.heap.size w.heap.size (Lib.byteCells (L ++ Z.data.toList)) w9) := Lib.hid (bu_kept HBU8.out hb9))) | (go_at_call 27; (with_reducible refine (bu_wstr w.heap.size w.heap.size (L ++ Z.data.toList) Y w9 HBU9.out (by rw [List.length_append, HZL.out]; omega) (by omega) (by omega) HB9.out.size).mono ?_); (rintro e10 w10 ⟨rfl, hbu10, hb10, _⟩)))
            all_goals
              go_roundw
              case rel => exact ⟨j + 1 + 1, by omega, by go_num, by rw [HT.out]; exact hbu10, HB9.out.trans hb10, hRn⟩
              case measure => simp [intOf]; omega
      · have hRe := hbad hc
        obtain ⟨c, hcc⟩ : ∃ c, chF k x = c := ⟨_, rfl⟩
        rw [hRi, hcc] at hRe
        rw [hcc] at HC hc
        subst hRe
        have hc0 : (c == 0) = false := by rw [beq_eq_false_iff_ne]; exact hc
        have hc1 : (c != 0) = true := by rw [bne_iff_ne]; exact hc
        clear hbad hend hgo hRi hL hbu hb hsa hR HZS hcc
        go_wp2_with (first | (go_at_call 14; (with_reducible refine (HC.out _ (HB.out.alloc (by omega) _)).mono ?_); (rintro e5 w5 ⟨rfl, hb5⟩); (have hba : Below wr.heap.size wr w5 := ((Below.refl wr.heap.size wr).alloc (Nat.le_refl _) _).trans (hb5.mono (by simp))); (have HB5 : Hid (Below w.heap.size w w5) := Lib.hid (HB.out.trans (hba.mono hz))); (have HBU5 : Hid (Lib.IsBuilder 54 5 w.heap.size w.heap.size (Lib.byteCells L) w5) := Lib.hid (bu_kept HBU0.out hba)); (have hz5 := HB5.out.size); (have hy5 : wr.heap.size < w5.heap.size := by (have := hb5.size; simp at this; omega)); (have s0 : w5.cell? ⟨wr.heap.size, 0, none⟩ = some (.int .i64 k) := (hb5.cell (p := ⟨wr.heap.size, 0, none⟩) (by simp)).trans (Own.cell (Own.new wr 31 [.int .i64 k, .string x, .int .i64 p]) 0)); (have s1 : w5.cell? ⟨wr.heap.size, 1, none⟩ = some (.string x) := (hb5.cell (p := ⟨wr.heap.size, 1, none⟩) (by simp)).trans (Own.cell (Own.new wr 31 [.int .i64 k, .string x, .int .i64 p]) 1)); (have s2 : w5.cell? ⟨wr.heap.size, 2, none⟩ = some (.int .i64 p) := (hb5.cell (p := ⟨wr.heap.size, 2, none⟩) (by simp)).trans (Own.cell (Own.new wr 31 [.int .i64 k, .string x, .int .i64 p]) 2)); (have HS5 := Lib.hid (And.intro s0 (And.intro s1 s2))); clear hb5 hba))
        go_ret2
        exact ⟨rfl, HB5.out⟩
    · have hie : i = l.length := by omega
      have hRe := tx_all (r := r) (l := l) (i := i) (by omega)
      rw [hRi, hL] at hRe
      subst hRe
      subst hie
      clear hRi hL hbu hb hR HZS
      go_wp2_with (first | (go_at_call 26; (with_reducible refine (bu_len w.heap.size w.heap.size L wr HBU0.out (by omega)).mono ?_); rintro e6 w6 ⟨rfl, rfl⟩) | (go_at_call 29; (with_reducible refine (Tryz.Builder_String_any w.heap.size w.heap.size L wr HBU0.out hz).mono ?_); (rintro e9 w9 ⟨rfl, hb9⟩)))
      go_ret2
      exact ⟨rfl, HB.out.trans hb9⟩
theorem text_gen (g cap : Nat) (l : List Sy) (r : Int) (w : World) (h : Wo w) (hr : 0 ≤ r ∧ r ≤ 2) (hn : l.length ≤ 1000) (hzs : ∀ s ∈ l, s.2.1.size ≤ 400) (hlt : ∀ i, i ≤ l.length → (txB r l i).length ≤ 60000) (hcap : l.length ≤ cap) (hg2 : g < w.heap.size) (hgc : ∀ j u, (sy l)[j]? = some u → w.cell? ⟨g, j, none⟩ = some u) (R : ByteArray × Int) (hR : txR r l 0 = R) :
    Calls Tryz.prog 16 #[.slice (some ⟨g, 0, none⟩) l.length cap, .int .i64 r] w fun e w' => e = .returned (.tuple #[.string R.1, .int .i64 R.2]) ∧ Below w.heap.size w w' :=
  text_off g 0 cap l r w h hr hn hzs hlt hcap hg2 (fun j u hj => by rw [Nat.zero_add]; exact hgc j u hj) R hR
theorem text_some (g cap : Nat) (l : List Sy) (r : Int) (w : World) (h : Wo w) (hr : 0 ≤ r ∧ r ≤ 2) (hn : l.length ≤ 80) (hzs : ∀ s ∈ l, s.2.1.size ≤ 200) (hcap : l.length ≤ cap) (hg2 : g < w.heap.size) (hgc : ∀ j u, (sy l)[j]? = some u → w.cell? ⟨g, j, none⟩ = some u) (R : ByteArray × Int) (hR : txR r l 0 = R) :
    Calls Tryz.prog 16 #[.slice (some ⟨g, 0, none⟩) l.length cap, .int .i64 r] w fun e w' => e = .returned (.tuple #[.string R.1, .int .i64 R.2]) ∧ Below w.heap.size w w' :=
  text_gen g cap l r w h hr (by omega) (fun s hs => Nat.le_trans (hzs s hs) (by decide)) (fun i hi => by have := txB_len r l hzs i; omega) hcap hg2 hgc R hR
end Go.Proofs.YtbnldpcbdeeflaaGreatDoor
