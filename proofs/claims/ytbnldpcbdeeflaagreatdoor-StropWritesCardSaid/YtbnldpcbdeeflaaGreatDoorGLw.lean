/- StropWrites's walk. Condition: the tables hold what they are laid with. -/
import Derived.Test.YtbnldpcbdeeflaaGreatDoorWt
import Derived.Test.YtbnldpcbdeeflaaGreatDoorGRq
import Derived.Test.YtbnldpcbdeeflaaGreatDoorRtx
import Derived.Deep.RegionWith
import Derived.Test.YtbnldpcbdeeflaaGreatDoorPo
import Derived.Deep.Slices
import Derived.Deep.Strs
import Derived.Laws.World
import Derived.Carry
namespace Go.Proofs.YtbnldpcbdeeflaaGreatDoor
open Go.ChangeShapes Go.WideShapes Go.ChangeAt Go.RowKit

/-- The slice v reads as the list l of symbols, wherever it begins. -/
def In (w : World) (v : Value) (l : List Sy) : Prop := (v = .slice none 0 0 ∧ l = []) ∨ (∃ a cap, v = .slice (some a) 0 cap ∧ l = []) ∨ (∃ g o cap, v = .slice (some ⟨g, o, none⟩) l.length cap ∧ l.length ≤ cap ∧ l.length ≤ 9223372036854775807 ∧ g < w.heap.size ∧ ∀ j u, (sy l)[j]? = some u → w.cell? ⟨g, o + j, none⟩ = some u)
theorem In.call {w w' : World} {v : Value} {l : List Sy} (h : In w v l) (hb : Below w.heap.size w w') : In w' v l := by
  rcases h with h | h | ⟨g, o, cap, h1, h2, h3, h4, h5⟩
  · exact Or.inl h
  · exact Or.inr (Or.inl h)
  · exact Or.inr (Or.inr ⟨g, o, cap, h1, h2, h3, Nat.lt_of_lt_of_le h4 hb.size, fun j u q => (hb.cell (p := ⟨g, o + j, none⟩) h4).trans (h5 j u q)⟩)
/-- The sizes of the first i texts. -/
def sm (l : List Sy) : Nat → Int
  | 0 => 0
  | i + 1 => sm l i + ((sA l i).2.1.size : Int)
theorem sm_bound (l : List Sy) : ∀ i, (∀ j, j < i → (sA l j).2.1.size ≤ 200) → 0 ≤ sm l i ∧ sm l i ≤ 200 * (i : Int)
  | 0, _ => ⟨Int.le_refl 0, by simp [sm]⟩
  | i + 1, h => by
    have := sm_bound l i (fun j hj => h j (by omega))
    have := h i (by omega)
    simp only [sm]
    omega
def fewF (l : List Sy) : Bool := decide ((l.length ≤ 80 ∧ ∀ s ∈ l, s.2.1.size ≤ 200) ∧ sm l l.length ≤ 1000)
theorem sA_all {l : List Sy} {m : Nat} (h : ∀ j, j < l.length → (sA l j).2.1.size ≤ m) : ∀ s ∈ l, s.2.1.size ≤ m := by
  intro s hs
  obtain ⟨j, hj, rfl⟩ := List.mem_iff_getElem.1 hs
  have := h j hj
  rwa [sA_eq (List.getElem?_eq_getElem hj)] at this
set_option maxRecDepth 100000 in
set_option maxHeartbeats 4000000 in
theorem few_any (v : Value) (l : List Sy) (w : World) (h : In w v l) : Calls Tryz.prog 13 #[v] w fun e w' => e = .returned (.bool (fewF l)) ∧ Below w.heap.size w w' := by
  rcases h with ⟨rfl, rfl⟩ | ⟨a, cap, rfl, rfl⟩ | ⟨g, o, cap, rfl, hcap, hn, hg, hgc⟩
  · go_enter Tryz.func13, Tryz.ntmps13
    go_wp2_with fail
    go_loopw [3, 8] (fun v3 v8 wr => v3 = .int .i64 0 ∧ v8 = .int .i64 0 ∧ Below w.heap.size w wr) (fun _ _ _ => 0)
    case atStart => exact ⟨rfl, rfl, Below.refl _ _⟩
    case round =>
      obtain ⟨rfl, rfl, hb⟩ := hrel
      have HB := Lib.hid hb
      clear hb
      go_wp2_with fail
      go_returns
      exact ⟨rfl, HB.out⟩
  · go_enter Tryz.func13, Tryz.ntmps13
    go_wp2_with fail
    go_loopw [3, 8] (fun v3 v8 wr => v3 = .int .i64 0 ∧ v8 = .int .i64 0 ∧ Below w.heap.size w wr) (fun _ _ _ => 0)
    case atStart => exact ⟨rfl, rfl, Below.refl _ _⟩
    case round =>
      obtain ⟨rfl, rfl, hb⟩ := hrel
      have HB := Lib.hid hb
      clear hb
      go_wp2_with fail
      go_returns
      exact ⟨rfl, HB.out⟩
  · have HGC := Lib.hid hgc
    clear hgc
    go_enter Tryz.func13, Tryz.ntmps13
    go_wp2_with fail
    go_loopw [3, 8] (fun v3 v8 wr => ∃ (i : Nat) (N : Int), i ≤ l.length ∧ v3 = .int .i64 N ∧ v8 = .int .i64 i ∧ Below w.heap.size w wr ∧ (∀ j, j < i → (sA l j).2.1.size ≤ 200) ∧ (l.length ≤ 80 → N = sm l i)) (fun _ v8 _ => l.length - (intOf v8).toNat)
    case atStart => exact ⟨0, 0, Nat.zero_le _, rfl, rfl, Below.refl _ _, fun j hj => absurd hj (Nat.not_lt_zero _), fun _ => rfl⟩
    case round =>
      obtain ⟨i, N, hi, rfl, rfl, hb, hsz, hsm⟩ := hrel
      have HB := Lib.hid hb
      have hz := hb.size
      have HSZ := Lib.hid hsz
      have HSM := Lib.hid hsm
      clear hsz hsm
      by_cases hil : i < l.length
      · obtain ⟨s, hs⟩ : ∃ s, l[i]? = some s := ⟨l[i], List.getElem?_eq_getElem hil⟩
        have hsa := sA_eq hs
        have hmem := List.mem_of_getElem? hs
        obtain ⟨s1, s2, s3⟩ := sy_at l i s hs
        have a0 : wr.cell? ⟨g, o + i * 3, none⟩ = some (.int .i64 s.1) := (hb.cell (p := ⟨g, o + i * 3, none⟩) hg).trans (HGC.out _ _ s1)
        have a1 : wr.cell? ⟨g, o + i * 3 + 1, none⟩ = some (.string s.2.1) := (hb.cell (p := ⟨g, o + i * 3 + 1, none⟩) hg).trans (HGC.out _ _ s2)
        have a2 : wr.cell? ⟨g, o + i * 3 + 2, none⟩ = some (.int .i64 s.2.2) := (hb.cell (p := ⟨g, o + i * 3 + 2, none⟩) hg).trans (HGC.out _ _ s3)
        have hbelow : ∀ o', Below w.heap.size w (wr.alloc o') := fun o' => hb.alloc hz o'
        have HBE := Lib.hid hbelow
        by_cases hlong : s.2.1.size ≤ 200
        · have hd : decide ((s.2.1.size : Int) > 200) = false := decide_eq_false (by omega)
          have HSZ1 : Hid (∀ j, j < i + 1 → (sA l j).2.1.size ≤ 200) := Lib.hid (fun j hj => by
            rcases Nat.lt_or_ge j i with h | h
            · exact HSZ.out j h
            · have : j = i := by omega
              subst this; rw [hsa]; exact hlong)
          have HSM1 : Hid (l.length ≤ 80 → wrap64 (N + (s.2.1.size : Int)) = sm l (i + 1)) := Lib.hid (fun h8 => by
            have e := HSM.out h8
            have b := sm_bound l i HSZ.out
            have e2 : wrap64 (N + (s.2.1.size : Int)) = N + (s.2.1.size : Int) := by unfold wrap64; omega
            rw [e2, e]
            simp only [sm, hsa])
          obtain ⟨k, x, p⟩ := s
          simp only at a0 a1 a2 hd HSM1
          clear hb hbelow hs s1 s2 s3 hsa hmem hlong
          go_wp2_with fail
          go_roundw
          case rel => exact ⟨i + 1, _, hil, rfl, by go_num, HBE.out _, HSZ1.out, HSM1.out⟩
          case measure => simp [intOf]; omega
        · have hd : decide ((s.2.1.size : Int) > 200) = true := decide_eq_true (by omega)
          have hf : fewF l = false := decide_eq_false (fun h => hlong (h.1.2 s hmem))
          have HF := Lib.hid hf
          obtain ⟨k, x, p⟩ := s
          simp only at a0 a1 a2 hd
          clear hb hbelow hs s1 s2 s3 hsa hmem hlong hf
          go_wp2_with fail
          go_returns
          rw [HF.out]
          exact ⟨rfl, HBE.out _⟩
      · have hie : i = l.length := by omega
        subst hie
        have hall := sA_all HSZ.out
        by_cases h8 : l.length ≤ 80
        · have hN := HSM.out h8
          have hd : decide ((l.length : Int) ≤ 80) = true := decide_eq_true (by omega)
          have hd2 : decide (l.length ≤ 80) = true := decide_eq_true h8
          by_cases h10 : N ≤ 1000
          · have hd3 : decide (N ≤ 1000) = true := decide_eq_true h10
            have HF : Hid (fewF l = true) := Lib.hid (decide_eq_true ⟨⟨h8, hall⟩, by rw [← hN]; exact h10⟩)
            clear hN hall hb hil
            go_wp2_with fail
            go_returns
            rw [HF.out]
            exact ⟨rfl, HB.out⟩
          · have hd3 : decide (N ≤ 1000) = false := decide_eq_false h10
            have HF : Hid (fewF l = false) := Lib.hid (decide_eq_false (fun h => h10 (by rw [hN]; exact h.2)))
            clear hN hall hb hil
            go_wp2_with fail
            go_returns
            rw [HF.out]
            exact ⟨rfl, HB.out⟩
        · have hd : decide ((l.length : Int) ≤ 80) = false := decide_eq_false (by omega)
          have hd2 : decide (l.length ≤ 80) = false := decide_eq_false h8
          have HF : Hid (fewF l = false) := Lib.hid (decide_eq_false (fun h => h8 h.1.1))
          clear hall hb hil
          go_wp2_with fail
          go_returns
          rw [HF.out]
          exact ⟨rfl, HB.out⟩
end Go.Proofs.YtbnldpcbdeeflaaGreatDoor
/- StropWrites: both Texts answer the same plain function. Condition: the tables hold what they are laid with; few symbols with short texts. -/
namespace Go.Proofs.YtbnldpcbdeeflaaGreatDoor
open Go.ChangeShapes Go.WideShapes Go.ChangeAt Go.RowKit

theorem text_zero (a : Addr) (cap : Nat) (r : Int) (w : World) (h : 0 ≤ r ∧ r ≤ 2) :
    Calls Tryz.prog 16 #[.slice (some a) 0 cap, .int .i64 r] w fun e w' => e = .returned (.tuple #[.string ⟨#[]⟩, .int .i64 0]) ∧ Below w.heap.size w w' := by
  have HRG := Lib.hid (fun W => reg_any r W)
  rw [decide_eq_true h] at HRG
  have HBU : Hid (Lib.IsBuilder 54 5 w.heap.size w.heap.size (Lib.byteCells []) (w.alloc (.cells #[.pointer none, .slice none 0 0] 54))) := Lib.hid (Lib.fresh_isBuilder _ _ _)
  clear h
  go_enter Tryz.func16, Tryz.ntmps16
  go_wp2_with (first | (go_at_call 20; (with_reducible refine (HRG.out _).mono ?_); rintro e w' ⟨rfl, rfl⟩))
  go_loopw [15] (fun v15 wr => v15 = .int .i64 0 ∧ Lib.IsBuilder 54 5 w.heap.size w.heap.size (Lib.byteCells []) wr ∧ Below w.heap.size w wr) (fun v15 _ => 0)
  case atStart => exact ⟨rfl, HBU.out, (Below.refl _ w).alloc (Nat.le_refl _) _⟩
  case round =>
    obtain ⟨rfl, hbu, hb⟩ := hrel
    have HB := Lib.hid hb
    have hz := hb.size
    have HBU0 := Lib.hid hbu
    clear hbu hb
    go_wp2_with (first | (go_at_call 26; (with_reducible refine (bu_len w.heap.size w.heap.size [] wr HBU0.out (by decide)).mono ?_); rintro e6 w6 ⟨rfl, rfl⟩) | (go_at_call 29; (with_reducible refine (Tryz.Builder_String_any w.heap.size w.heap.size [] wr HBU0.out hz).mono ?_); (rintro e9 w9 ⟨rfl, hb9⟩)))
    go_ret2
    exact ⟨rfl, HB.out.trans hb9⟩

def tR (r : Int) (l : List Sy) : ByteArray × Int := if 0 ≤ r ∧ r ≤ 2 then txR r l 0 else (⟨#[]⟩, 1)
theorem tR_nil {r : Int} (h : 0 ≤ r ∧ r ≤ 2) : tR r [] = (⟨#[]⟩, 0) := by
  unfold tR
  rw [if_pos h, tx_all (l := []) (i := 0) (Nat.le_refl _)]
  rfl
theorem tx_bound {l : List Sy} (hn : l.length ≤ 80) (hz : ∀ s ∈ l, s.2.1.size ≤ 200) (r : Int) : ∀ i, i ≤ l.length → (txB r l i).length ≤ 60000 := fun i hi => by
  have := txB_len r l hz i
  omega
theorem text_both (v : Value) (l : List Sy) (r : Int) (w : World) (h : Wo w) (hv : In w v l) (hn : l.length ≤ 80) (hz : ∀ s ∈ l, s.2.1.size ≤ 200) :
    Calls Tryz.prog 16 #[v, .int .i64 r] w (fun e w' => e = .returned (.tuple #[.string (tR r l).1, .int .i64 (tR r l).2]) ∧ Below w.heap.size w w') ∧
    Calls Tryz.prog 17 #[v, .int .i64 r] w (fun e w' => e = .returned (.tuple #[.string (tR r l).1, .int .i64 (tR r l).2]) ∧ Below w.heap.size w w') := by
  by_cases hr : 0 ≤ r ∧ r ≤ 2
  · rcases hv with ⟨rfl, rfl⟩ | ⟨a, cap, rfl, rfl⟩ | ⟨g, o, cap, rfl, hcap, _, hg, hgc⟩
    · rw [tR_nil hr]
      exact ⟨text_nil r w hr, rtext_none _ (Or.inl rfl) r w hr⟩
    · rw [tR_nil hr]
      exact ⟨text_zero a cap r w hr, rtext_none _ (Or.inr ⟨a, cap, rfl⟩) r w hr⟩
    · have e : tR r l = txR r l 0 := by unfold tR; rw [if_pos hr]
      rw [e]
      exact ⟨text_off g o cap l r w h hr (by omega) (fun s hs => by have := hz s hs; omega) (tx_bound hn hz r) hcap hg hgc _ rfl,
        rtext_off g o cap l r w (fun k x p W hx => rcheck_any k x p W (by omega)) hr (by omega) (fun s hs => by have := hz s hs; omega) (tx_bound hn hz r) hcap hg hgc⟩
  · have e : tR r l = (⟨#[]⟩, 1) := by unfold tR; rw [if_neg hr]
    rw [e]
    exact ⟨text_arg v r w hr, rtext_arg v r w hr⟩
/-- What a round over the symbols keeps: the block b holds the symbol. -/
def Xs (w : World) (b : Nat) (k : Int) (x : ByteArray) (p : Int) (W : World) : Prop := Below w.heap.size w W ∧ w.heap.size ≤ b ∧ b < W.heap.size ∧ W.cell? ⟨b, 0, none⟩ = some (.int .i64 k) ∧ W.cell? ⟨b, 1, none⟩ = some (.string x) ∧ W.cell? ⟨b, 2, none⟩ = some (.int .i64 p)
theorem Xs.below {w W : World} {b : Nat} {k p : Int} {x : ByteArray} (h : Xs w b k x p W) : Below w.heap.size w W := h.1
theorem Xs.new {w wr : World} (h : Below w.heap.size w wr) (k : Int) (x : ByteArray) (p : Int) : Xs w wr.heap.size k x p (wr.alloc (.cells #[.int .i64 k, .string x, .int .i64 p] 31)) :=
  ⟨h.alloc h.size _, h.size, by simp, Own.cell (Own.new wr 31 [.int .i64 k, .string x, .int .i64 p]) 0, Own.cell (Own.new wr 31 [.int .i64 k, .string x, .int .i64 p]) 1, Own.cell (Own.new wr 31 [.int .i64 k, .string x, .int .i64 p]) 2⟩
theorem Xs.call {w W W' : World} {b : Nat} {k p : Int} {x : ByteArray} (h : Xs w b k x p W) (hb : Below W.heap.size W W') : Xs w b k x p W' :=
  ⟨h.1.trans (hb.mono h.1.size), h.2.1, Nat.lt_of_lt_of_le h.2.2.1 hb.size, (hb.cell (p := ⟨b, 0, none⟩) h.2.2.1).trans h.2.2.2.1, (hb.cell (p := ⟨b, 1, none⟩) h.2.2.1).trans h.2.2.2.2.1, (hb.cell (p := ⟨b, 2, none⟩) h.2.2.1).trans h.2.2.2.2.2⟩
theorem Xs.drew {w W : World} {b : Nat} {k p : Int} {x : ByteArray} (h : Xs w b k x p W) : Xs w b k x p W.drew := h.call ((Below.refl W.heap.size W).drew)
theorem chk_p (k : Int) (x : ByteArray) (p : Int) (w : World) (h : Wo w) (hx : x.size ≤ 200) (b : Nat) (W : World) (hX : Xs w b k x p W) :
    Calls Tryz.prog 14 #[.agg #[.int .i64 k, .string x, .int .i64 p]] W fun e w' => e = .returned (.int .i64 (chF k x)) ∧ Xs w b k x p w' := by
  have := dbQ_size x
  exact (check_any k x p W (by omega) (by omega) (h.call hX.1)).mono fun e w' ⟨q, hb⟩ => ⟨q, hX.call hb⟩
theorem chk_r (k : Int) (x : ByteArray) (p : Int) (w : World) (hx : x.size ≤ 200) (b : Nat) (W : World) (hX : Xs w b k x p W) :
    Calls Tryz.prog 15 #[.agg #[.int .i64 k, .string x, .int .i64 p]] W fun e w' => e = .returned (.int .i64 (chF k x)) ∧ Xs w b k x p w' :=
  (rcheck_any k x p W (by omega)).mono fun e w' ⟨q, hb⟩ => ⟨q, hX.call hb⟩
end Go.Proofs.YtbnldpcbdeeflaaGreatDoor
/- StropWrites's walk. Condition: the tables hold what they are laid with. -/
namespace Go.Proofs.YtbnldpcbdeeflaaGreatDoor
open Go.ChangeShapes Go.WideShapes Go.ChangeAt Go.RowKit

set_option maxRecDepth 100000 in
set_option maxHeartbeats 8000000 in
theorem wr_out (v : Value) (l : List Sy) (r : Int) (hf : fewF l = false) (w : World) (h : Wo w) (hv : In w v l) : Calls Tryz.prog 4 #[v, .int .i64 r] w fun e w' => e = .returned (.bool true) ∧ Below w.heap.size w w' := by
  have HA := Lib.hid (awake_any w h)
  have HF := Lib.hid (fun (W : World) (hb : Below w.heap.size w W) => few_any v l W (hv.call hb))
  rw [hf] at HF
  clear h hv hf
  go_enter Tryz.func4, Tryz.ntmps4
  go_wp2_with (first | (go_at_call 9; (with_reducible refine HA.out.mono ?_); (rintro e w1 ⟨rfl, hb1⟩); (have HB1 := Lib.hid hb1); (have hz1 := hb1.size); clear hb1) | (go_at_call 13; (with_reducible refine (HF.out w1 HB1.out).mono ?_); (rintro e w2 ⟨rfl, hb2⟩); (have HB2 : Hid (Below w.heap.size w w2) := Lib.hid (HB1.out.trans (hb2.mono hz1))); (have hz2 := HB2.out.size); clear hb2))
  go_returns
  exact ⟨rfl, HB2.out⟩
set_option maxRecDepth 100000 in
set_option maxHeartbeats 8000000 in
theorem wr_nil (v : Value) (hs : v = .slice none 0 0 ∨ ∃ a cap, v = .slice (some a) 0 cap) (r : Int) (w : World) (h : Wo w) : Calls Tryz.prog 4 #[v, .int .i64 r] w fun e w' => e = .returned (.bool true) ∧ Below w.heap.size w w' := by
  have hv : ∀ W, In W v [] := fun W => by
    rcases hs with e | ⟨a, cap, e⟩
    · exact Or.inl ⟨e, rfl⟩
    · exact Or.inr (Or.inl ⟨a, cap, e, rfl⟩)
  have HA := Lib.hid (awake_any w h)
  have HF := Lib.hid (fun (W : World) (hb : Below w.heap.size w W) => few_any v [] W (hv W))
  rw [show fewF [] = true from by decide] at HF
  have HTX := Lib.hid (fun (W : World) (hb : Below w.heap.size w W) => text_both v [] r W (h.call hb) (hv W) (Nat.zero_le _) (fun s hs => by cases hs))
  obtain ⟨⟨S, E⟩, hT⟩ : ∃ R, tR r [] = R := ⟨_, rfl⟩
  rw [hT] at HTX
  simp only at HTX
  have heE : (E == E) = true := beq_self_eq_true _
  have heS : decide (S = S) = true := decide_eq_true rfl
  clear h hv hT
  rcases hs with rfl | ⟨a, cap, rfl⟩
  all_goals
    go_enter Tryz.func4, Tryz.ntmps4
    go_wp2_with (first | (go_at_call 9; (with_reducible refine HA.out.mono ?_); (rintro e w1 ⟨rfl, hb1⟩); (have HB1 := Lib.hid hb1); (have hz1 := hb1.size); clear hb1) | (go_at_call 13; (with_reducible refine (HF.out w1 HB1.out).mono ?_); (rintro e w2 ⟨rfl, hb2⟩); (have HB2 : Hid (Below w.heap.size w w2) := Lib.hid (HB1.out.trans (hb2.mono hz1))); (have hz2 := HB2.out.size); clear hb2))
    go_loopw [18] (fun v18 wr => v18 = .int .i64 0 ∧ Below w.heap.size w wr) (fun _ _ => 0)
    case atStart => exact ⟨rfl, HB2.out⟩
    case round =>
      obtain ⟨rfl, hb3⟩ := hrel
      have HB3 := Lib.hid hb3
      clear hb3
      go_wp2_with (first | (go_at_call 16; (with_reducible refine (HTX.out _ HB3.out).1.mono ?_); (rintro e w7 ⟨rfl, hb7⟩); (have HB7 : Hid (Below w.heap.size w w7) := Lib.hid (HB3.out.trans (hb7.mono HB3.out.size))); clear hb7) | (go_at_call 17; (with_reducible refine (HTX.out _ HB7.out).2.mono ?_); (rintro e w8 ⟨rfl, hb8⟩); (have HB8 : Hid (Below w.heap.size w w8) := Lib.hid (HB7.out.trans (hb8.mono HB7.out.size))); clear hb8))
      go_returns
      exact ⟨rfl, HB8.out⟩
set_option maxRecDepth 100000 in
set_option maxHeartbeats 8000000 in
theorem wr_run (g o cap : Nat) (l : List Sy) (r : Int) (hf : fewF l = true) (w : World) (h : Wo w) (hcap : l.length ≤ cap) (hg : g < w.heap.size) (hgc : ∀ j u, (sy l)[j]? = some u → w.cell? ⟨g, o + j, none⟩ = some u) : Calls Tryz.prog 4 #[.slice (some ⟨g, o, none⟩) l.length cap, .int .i64 r] w fun e w' => e = .returned (.bool true) ∧ Below w.heap.size w w' := by
  obtain ⟨⟨hn, hz⟩, _⟩ := of_decide_eq_true hf
  have hv : In w (.slice (some ⟨g, o, none⟩) l.length cap) l := Or.inr (Or.inr ⟨g, o, cap, rfl, hcap, by omega, hg, hgc⟩)
  have HA := Lib.hid (awake_any w h)
  have HF := Lib.hid (fun (W : World) (hb : Below w.heap.size w W) => few_any (.slice (some ⟨g, o, none⟩) l.length cap) l W (hv.call hb))
  rw [hf] at HF
  have HTX := Lib.hid (fun (W : World) (hb : Below w.heap.size w W) => text_both (.slice (some ⟨g, o, none⟩) l.length cap) l r W (h.call hb) (hv.call hb) hn hz)
  obtain ⟨⟨S, E⟩, hT⟩ : ∃ R, tR r l = R := ⟨_, rfl⟩
  rw [hT] at HTX
  simp only at HTX
  have heE : (E == E) = true := beq_self_eq_true _
  have heS : decide (S = S) = true := decide_eq_true rfl
  have HGC := Lib.hid hgc
  have HZ := Lib.hid hz
  have HH := Lib.hid h
  clear h hv hT hgc hz hf
  go_enter Tryz.func4, Tryz.ntmps4
  go_wp2_with (first | (go_at_call 9; (with_reducible refine HA.out.mono ?_); (rintro e w1 ⟨rfl, hb1⟩); (have HB1 := Lib.hid hb1); (have hz1 := hb1.size); clear hb1) | (go_at_call 13; (with_reducible refine (HF.out w1 HB1.out).mono ?_); (rintro e w2 ⟨rfl, hb2⟩); (have HB2 : Hid (Below w.heap.size w w2) := Lib.hid (HB1.out.trans (hb2.mono hz1))); (have hz2 := HB2.out.size); clear hb2))
  go_loopw [18] (fun v18 wr => ∃ i : Nat, i ≤ l.length ∧ v18 = .int .i64 i ∧ Below w.heap.size w wr) (fun v18 _ => l.length - (intOf v18).toNat)
  case atStart => exact ⟨0, Nat.zero_le _, rfl, HB2.out⟩
  case round =>
    obtain ⟨i, hi, rfl, hb3⟩ := hrel
    have HB3 := Lib.hid hb3
    by_cases hil : i < l.length
    · obtain ⟨s, hs⟩ : ∃ s, l[i]? = some s := ⟨l[i], List.getElem?_eq_getElem hil⟩
      have hxz := HZ.out s (List.mem_of_getElem? hs)
      obtain ⟨s1, s2, s3⟩ := sy_at l i s hs
      have a0 : wr.cell? ⟨g, o + i * 3, none⟩ = some (.int .i64 s.1) := (hb3.cell (p := ⟨g, o + i * 3, none⟩) hg).trans (HGC.out _ _ s1)
      have a1 : wr.cell? ⟨g, o + i * 3 + 1, none⟩ = some (.string s.2.1) := (hb3.cell (p := ⟨g, o + i * 3 + 1, none⟩) hg).trans (HGC.out _ _ s2)
      have a2 : wr.cell? ⟨g, o + i * 3 + 2, none⟩ = some (.int .i64 s.2.2) := (hb3.cell (p := ⟨g, o + i * 3 + 2, none⟩) hg).trans (HGC.out _ _ s3)
      obtain ⟨k, x, p⟩ := s
      simp only at a0 a1 a2 hxz
      have HCP := Lib.hid (fun (b : Nat) (W : World) (hX : Xs w b k x p W) => chk_p k x p w HH.out hxz b W hX)
      have HCR := Lib.hid (fun (b : Nat) (W : World) (hX : Xs w b k x p W) => chk_r k x p w hxz b W hX)
      have HX0 := Lib.hid (Xs.new HB3.out k x p)
      obtain ⟨Z, hZ⟩ : ∃ Z, chF k x = Z := ⟨_, rfl⟩
      rw [hZ] at HCP HCR
      have hzz : (Z != Z) = false := by simp
      clear hb3 hs s1 s2 s3 hxz hZ
      go_upto_region 8 with fail
      go_region_with (first | (go_at_call 14; (with_reducible refine (HCP.out _ _ (by first | (with_reducible exact HX6.out) | (with_reducible exact HX5.out) | (with_reducible exact HX6.out.drew) | (with_reducible exact HX5.out.drew) | (with_reducible exact HX0.out) | (with_reducible exact HX0.out.drew) | exact HX0.out.drew)).mono ?_); (rintro e w5 ⟨rfl, hX5⟩); (obtain ⟨hb5, _, _, hc5a, hc5b, hc5c⟩ := id hX5); (have HX5 := Lib.hid hX5); clear hX5 hb5) | (go_at_call 15; (with_reducible refine (HCR.out _ _ (by first | (with_reducible exact HX6.out) | (with_reducible exact HX5.out) | (with_reducible exact HX6.out.drew) | (with_reducible exact HX5.out.drew) | (with_reducible exact HX0.out) | (with_reducible exact HX0.out.drew) | exact HX0.out.drew)).mono ?_); (rintro e w6 ⟨rfl, hX6⟩); (obtain ⟨hb6, _, _, hc6a, hc6b, hc6c⟩ := id hX6); (have HX6 := Lib.hid hX6); clear hX6 hb6))
      all_goals
        go_wp2_with fail
        go_roundw
        case rel => exact ⟨i + 1, hil, by go_num, by first | (with_reducible exact HX6.out.below) | (with_reducible exact HX5.out.below) | (with_reducible exact HX6.out.below.drew) | (with_reducible exact HX5.out.below.drew)⟩
        case measure => simp [intOf]; omega
    · have hie : i = l.length := by omega
      subst hie
      clear hb3 hil
      go_wp2_with (first | (go_at_call 16; (with_reducible refine (HTX.out _ HB3.out).1.mono ?_); (rintro e w7 ⟨rfl, hb7⟩); (have HB7 : Hid (Below w.heap.size w w7) := Lib.hid (HB3.out.trans (hb7.mono HB3.out.size))); clear hb7) | (go_at_call 17; (with_reducible refine (HTX.out _ HB7.out).2.mono ?_); (rintro e w8 ⟨rfl, hb8⟩); (have HB8 : Hid (Below w.heap.size w w8) := Lib.hid (HB7.out.trans (hb8.mono HB7.out.size))); clear hb8))
      go_returns
      exact ⟨rfl, HB8.out⟩
theorem StropWrites_walk (v : Value) (l : List Sy) (r : Int) (w : World) (h : Wo w) (hv : In w v l) : Calls Tryz.prog 4 #[v, .int .i64 r] w fun e w' => e = .returned (.bool true) ∧ Below w.heap.size w w' := by
  cases hf : fewF l with
  | false => exact wr_out v l r hf w h hv
  | true =>
    rcases hv with ⟨rfl, rfl⟩ | ⟨a, cap, rfl, rfl⟩ | ⟨g, o, cap, rfl, hcap, _, hg, hgc⟩
    · exact wr_nil _ (Or.inl rfl) r w h
    · exact wr_nil _ (Or.inr ⟨a, cap, rfl⟩) r w h
    · exact wr_run g o cap l r hf w h hcap hg hgc
end Go.Proofs.YtbnldpcbdeeflaaGreatDoor
/- A slice of symbols that came in reads as a list. Condition: it reads as data. -/
namespace Go.Proofs.YtbnldpcbdeeflaaGreatDoor
open Go.ChangeShapes Go.WideShapes Go.ChangeAt Go.RowKit

theorem sy_get : ∀ (l : List Sy) (j : Nat) (u : Value), (sy l)[j]? = some u → ∃ i s, l[i]? = some s ∧ ((j = i * 3 ∧ u = .int .i64 s.1) ∨ (j = i * 3 + 1 ∧ u = .string s.2.1) ∨ (j = i * 3 + 2 ∧ u = .int .i64 s.2.2))
  | [], j, u, h => by simp [sy] at h
  | s :: l, 0, u, h => ⟨0, s, rfl, Or.inl ⟨rfl, (Option.some.inj h).symm⟩⟩
  | s :: l, 1, u, h => ⟨0, s, rfl, Or.inr (Or.inl ⟨rfl, (Option.some.inj h).symm⟩)⟩
  | s :: l, 2, u, h => ⟨0, s, rfl, Or.inr (Or.inr ⟨rfl, (Option.some.inj h).symm⟩)⟩
  | s :: l, j + 3, u, h => by
    obtain ⟨i, t, h1, h2⟩ := sy_get l j u h
    refine ⟨i + 1, t, h1, ?_⟩
    rcases h2 with ⟨a, b⟩ | ⟨a, b⟩ | ⟨a, b⟩
    · exact Or.inl ⟨by omega, b⟩
    · exact Or.inr (Or.inl ⟨by omega, b⟩)
    · exact Or.inr (Or.inr ⟨by omega, b⟩)
theorem cell_at {W : World} {b o : Nat} {sp : Option Nat} {n : Nat} {u : Value} (h : W.cell? ((⟨b, o, sp⟩ : Addr).add n) = some u) : W.cell? ⟨b, o + n, none⟩ = some u := by
  have hs := World.cell?_spot h
  unfold Addr.add at h hs
  by_cases e : n = 0
  · subst e
    simp only [if_pos] at h hs
    subst hs
    exact h
  · rw [if_neg e] at h
    exact h
instance : Inhabited Sy := ⟨(0, ⟨#[]⟩, 0)⟩
theorem c_int : Tryz.prog.cellsOf 3 = 1 := by kernel_rfl
theorem c_str : Tryz.prog.cellsOf 9 = 1 := by kernel_rfl
theorem c_sym : Tryz.prog.cellsOf 31 = 3 := by kernel_rfl
set_option maxRecDepth 100000 in
theorem in_of {H : Type} {enc : TypeId × Value → H} {W : World} {v : Value} {d : DataW H} {ps : List MemPlace} {b0 : Nat} (hval : Value.okWide Tryz.prog W .any b0 23 v) (h : DataW.Trod enc Tryz.prog W 0 (fun _ => true) true 23 v d ps) : ∃ l, In W v l := by
  obtain ⟨a0, len0, cap0, rfl⟩ := okWide_slice Tryz.underlying23 hval
  obtain ⟨fuel, hf⟩ := h
  have hci := c_int
  have hcs := c_str
  have hcy := c_sym
  rcases Deep.open_slice Tryz.underlying23 hf with ⟨h1, _⟩ | ⟨a, len, cap, m, n, D, Pl, hv, _, hl, hm, hmm, _, hi⟩
  · exact ⟨[], Or.inl ⟨List.head_eq_of_cons_eq h1, rfl⟩⟩
  · rw [show (Value.slice a0 len0 cap0) = .slice (some a) len cap from List.head_eq_of_cons_eq hv]
    clear hv hf hval
    by_cases h0 : len = 0
    · subst h0
      exact ⟨[], Or.inr (Or.inl ⟨a, cap, rfl, rfl⟩)⟩
    · simp only [if_true] at hmm
      rw [hcy] at hi
      have each : ∀ i, i < len → ∃ s : Sy, W.cell? (a.add (i * 3)) = some (.int .i64 s.1) ∧ W.cell? (a.add (i * 3 + 1)) = some (.string s.2.1) ∧ W.cell? (a.add (i * 3 + 2)) = some (.int .i64 s.2.2) := by
        intro i hlt
        obtain ⟨cs', h1, h2⟩ := hi i (by omega)
        obtain ⟨_, hlen, hcell⟩ := World.cells?_some h1
        obtain ⟨y0, y1, y2, k, _, _, g0, g1, g2⟩ := Deep.trod_struct3 Tryz.underlying31 h2
        match cs', hlen with
        | [v0, v1, v2], _ =>
          simp only [hci, hcs, List.drop_zero, List.drop_succ_cons, List.take_succ_cons, List.take_zero] at g0 g1 g2
          obtain ⟨n0, e0, _⟩ := DataW.trod_int Tryz.underlying3 g0
          obtain ⟨n1, e1, _⟩ := DataW.trod_string Tryz.underlying9 g1
          obtain ⟨n2, e2, _⟩ := DataW.trod_int Tryz.underlying3 g2
          obtain rfl : v0 = .int .i64 n0 := by simpa using e0
          obtain rfl : v1 = .string n1 := by simpa using e1
          obtain rfl : v2 = .int .i64 n2 := by simpa using e2
          have c0 := hcell 0 (by omega)
          have c1 := hcell 1 (by omega)
          have c2 := hcell 2 (by omega)
          rw [Deep.add_add] at c0 c1 c2
          exact ⟨(n0, n1, n2), by simpa using c0, by simpa using c1, by simpa using c2⟩
      obtain ⟨f, hf2⟩ := Deep.choose_lt each
      have hsp := World.cell?_spot (hf2 0 (by omega)).1
      obtain ⟨b, o, sp⟩ := a
      have hbl : b < W.heap.size := World.block_lt_of_cell? W _ (cell_at (hf2 0 (by omega)).1)
      obtain rfl : sp = none := by simpa [Addr.add] using hsp
      have hll : ((List.range len).map f).length = len := by simp
      refine ⟨(List.range len).map f, Or.inr (Or.inr ⟨b, o, cap, by rw [hll], by rw [hll]; exact hl, ?_, hbl, ?_⟩)⟩
      · rw [hll]
        have : cap ≤ 2 ^ 63 - 1 := hm
        omega
      · intro j u hu
        obtain ⟨i, s, h1, h2⟩ := sy_get _ j u hu
        have hil : i < len := by
          have := (List.getElem?_eq_some_iff.1 h1).1
          rwa [hll] at this
        obtain rfl : f i = s := by simpa [hil] using h1
        obtain ⟨q0, q1, q2⟩ := hf2 i hil
        rcases h2 with ⟨rfl, rfl⟩ | ⟨rfl, rfl⟩ | ⟨rfl, rfl⟩
        · exact cell_at q0
        · exact cell_at q1
        · exact cell_at q2
theorem laid_out : laidOutB Tryz.prog = true := by kernel_rfl
theorem trod_stays {H : Type} {enc : TypeId × Value → H} {W W' : World} {sp : Nat → Bool} {v : Value} {d : DataW H} {ps : List MemPlace} (h : DataW.Trod enc Tryz.prog W 0 (fun _ => true) true 23 v d ps) (hb : Below W.heap.size W W') (hlt : ∀ p ∈ ps, p.block < W.heap.size) (hs : ∀ p ∈ ps, sp p.block = true) :
    DataW.Trod enc Tryz.prog W' 0 sp true 23 v d ps :=
  WideElems.Trod_stays laid_out (by kernel_rfl) (of_decide_eq_true (by kernel_rfl)) h (fun p hp => hb.same (hlt p hp)) hs
theorem trodAll_two {H : Type} {enc : TypeId × Value → H} {P : Program} {w : World} {base : Nat} {sp : Nat → Bool} {held : Bool} {t0 t1 : TypeId} {v0 v1 : Value} {d0 d1 : DataW H} {p : List MemPlace} (h0 : DataW.Trod enc P w base sp held t0 v0 d0 p) (h1 : DataW.Trod enc P w base sp held t1 v1 d1 []) : DataW.TrodAll enc P w base sp held [t0, t1] [v0, v1] [d0, d1] p := by
  have := trodAll_cons_mk h0 (trodAll_cons_mk h1 trodAll_mk0)
  simpa only [List.append_nil] using this
end Go.Proofs.YtbnldpcbdeeflaaGreatDoor
