/- The reference's next symbol. Condition: its block and its list lie in blocks of the call's own. -/
import Derived.Test.YtbnldpcbdeeflaaGreatDoorRz
import Derived.Test.YtbnldpcbdeeflaaGreatDoorRu
import Derived.Test.YtbnldpcbdeeflaaGreatDoorNz
import Derived.Test.YtbnldpcbdeeflaaGreatDoorSp
namespace Go.Proofs.YtbnldpcbdeeflaaGreatDoor
open Go.ChangeShapes Go.WideShapes Go.ChangeAt Go.RowKit

/-- The reference's signs. -/
def sgR : List (List UInt8) := [[37, 42, 58, 61], [58, 47, 61, 58], [58, 61, 58], [43, 58, 61], [45, 58, 61], [42, 58, 61], [47, 58, 61], [37, 58, 61], [43, 61, 58], [124, 58], [58, 61], [47, 61], [60, 61], [62, 61], [42, 42], [47, 47], [37, 42], [43, 42], [40], [41], [91], [93], [44], [59], [58], [64], [124], [61], [60], [62], [43], [45], [42], [47], [37], [94], [38], [126]]
def rsgV : List Value := [.string ⟨#[37, 42, 58, 61]⟩, .string ⟨#[58, 47, 61, 58]⟩, .string ⟨#[58, 61, 58]⟩, .string ⟨#[43, 58, 61]⟩, .string ⟨#[45, 58, 61]⟩, .string ⟨#[42, 58, 61]⟩, .string ⟨#[47, 58, 61]⟩, .string ⟨#[37, 58, 61]⟩, .string ⟨#[43, 61, 58]⟩, .string ⟨#[124, 58]⟩, .string ⟨#[58, 61]⟩, .string ⟨#[47, 61]⟩, .string ⟨#[60, 61]⟩, .string ⟨#[62, 61]⟩, .string ⟨#[42, 42]⟩, .string ⟨#[47, 47]⟩, .string ⟨#[37, 42]⟩, .string ⟨#[43, 42]⟩, .string ⟨#[40]⟩, .string ⟨#[41]⟩, .string ⟨#[91]⟩, .string ⟨#[93]⟩, .string ⟨#[44]⟩, .string ⟨#[59]⟩, .string ⟨#[58]⟩, .string ⟨#[64]⟩, .string ⟨#[124]⟩, .string ⟨#[61]⟩, .string ⟨#[60]⟩, .string ⟨#[62]⟩, .string ⟨#[43]⟩, .string ⟨#[45]⟩, .string ⟨#[42]⟩, .string ⟨#[47]⟩, .string ⟨#[37]⟩, .string ⟨#[94]⟩, .string ⟨#[38]⟩, .string ⟨#[126]⟩]
theorem rsigns_any (w : World) : Calls Tryz.prog 66 #[] w fun e w' => e = .returned (.slice (some ⟨w.heap.size, 0, none⟩) 38 38) ∧ w' = w.alloc (.cells rsgV.toArray 9) := by
  go_enter Tryz.func66, Tryz.ntmps66
  go_wp2
  go_returns
  exact ⟨rfl, rfl⟩
theorem rsgV_at : ∀ i : Nat, i < 38 → rsgV[i]? = some (.string ⟨(sgR.getD i []).toArray⟩) := by
  intro i hi
  have h : rsgV = sgR.map (fun s => Value.string ⟨s.toArray⟩) := rfl
  have hl : i < sgR.length := hi
  rw [h, List.getElem?_map, List.getD_eq_getElem?_getD, List.getElem?_eq_getElem hl]
  rfl
/-- The first of the reference's signs from the ith on that a text begins with. -/
def fdR (d : List UInt8) (i : Nat) : Option (List UInt8) := (sgR.drop i).find? (fun s => Lib.hasPrefix d s)
theorem fr_in {i : Nat} (h : i < 38) : sgR.drop i = sgR.getD i [] :: sgR.drop (i + 1) := by
  have hl : i < sgR.length := h
  rw [List.drop_eq_getElem_cons hl, List.getD_eq_getElem?_getD, List.getElem?_eq_getElem hl]
  rfl
theorem fr_yes {d : List UInt8} {i : Nat} (h : i < 38) (k : Lib.hasPrefix d (sgR.getD i []) = true) : fdR d i = some (sgR.getD i []) := by unfold fdR; rw [fr_in h, List.find?_cons_of_pos k]
theorem fr_no {d : List UInt8} {i : Nat} (h : i < 38) (k : Lib.hasPrefix d (sgR.getD i []) = false) : fdR d i = fdR d (i + 1) := by unfold fdR; rw [fr_in h, List.find?_cons_of_neg (by rw [k]; decide)]
theorem dr_len (t : ByteArray) (a : Nat) : (t.data.toList.drop a).length = t.size - a := by rw [List.length_drop, Array.length_toList]; rfl
theorem fr_sw (d : List UInt8) (m : List (List UInt8)) : ([37, 42, 58, 61] :: [58, 47, 61, 58] :: m).find? (fun s => Lib.hasPrefix d s) = ([58, 47, 61, 58] :: [37, 42, 58, 61] :: m).find? (fun s => Lib.hasPrefix d s) := by
  cases h1 : Lib.hasPrefix d [37, 42, 58, 61]
  · cases h2 : Lib.hasPrefix d [58, 47, 61, 58]
    · simp only [List.find?_cons, h1, h2]
    · simp only [List.find?_cons, h1, h2]
  · cases h2 : Lib.hasPrefix d [58, 47, 61, 58]
    · simp only [List.find?_cons, h1, h2]
    · exfalso
      unfold Lib.hasPrefix at h1 h2
      have q1 := List.isPrefixOf_iff_prefix.mp h1
      have q2 := List.isPrefixOf_iff_prefix.mp h2
      cases d with
      | nil => have := q1.length_le; simp at this
      | cons c l =>
        have e1 := (List.cons_prefix_cons.mp q1).1
        have e2 := (List.cons_prefix_cons.mp q2).1
        rw [← e1] at e2
        exact absurd e2 (by decide)
theorem fr_eq (d : List UInt8) : fdR d 0 = fdS d 0 := by
  unfold fdR fdS
  simp only [List.drop_zero]
  exact fr_sw d _
theorem sr_len : ∀ i : Nat, i < 38 → (sgR.getD i []).length ≤ 4 := by
  intro i hi
  have h : ∀ j : Fin 38, (sgR.getD j.val []).length ≤ 4 := by decide
  exact h ⟨i, hi⟩
theorem pre_ext {t : ByteArray} {a : Nat} {s : List UInt8} (h : a + s.length ≤ t.size) : ((t.extract a (a + s.length)).toList == (⟨s.toArray⟩ : ByteArray).toList) = Lib.hasPrefix (t.data.toList.drop a) s := by
  rw [ByteArray.toList_eq, ByteArray.toList_eq, Lib.extract_data, show a + s.length - a = s.length by omega]
  unfold Lib.hasPrefix
  rw [Bool.eq_iff_iff, beq_iff_eq, List.isPrefixOf_iff_prefix]
  have hl : s.length ≤ (t.data.toList.drop a).length := by rw [dr_len]; omega
  constructor
  · intro e
    rw [show s = List.take s.length (t.data.toList.drop a) from e.symm]
    exact List.take_prefix _ _
  · intro e
    exact (List.prefix_iff_eq_take.mp e).symm
theorem pre_far {t : ByteArray} {a : Nat} {s : List UInt8} (h : t.size < a + s.length) (ha : a ≤ t.size) : Lib.hasPrefix (t.data.toList.drop a) s = false := by
  cases hp : Lib.hasPrefix (t.data.toList.drop a) s
  · rfl
  · exfalso
    have := (List.isPrefixOf_iff_prefix.mp hp).length_le
    rw [dr_len] at this
    omega
theorem ext_last {t : ByteArray} {a z : Nat} {m : List UInt8} {c : UInt8} (h : t.extract a z = ⟨(m ++ [c]).toArray⟩) (hz : z ≤ t.size) : bSd (pk t (z - 1)) = bSd (c.toNat : Int) := by
  have h1 := congrArg (fun y : ByteArray => y.data.toList) h
  simp only at h1
  rw [Lib.extract_data] at h1
  have h2 := congrArg List.length h1
  rw [List.length_take, dr_len, List.length_append, List.length_singleton] at h2
  have hz2 : z - 1 = a + m.length := by omega
  have h3 := congrArg (fun y : List UInt8 => y[m.length]?) h1
  (try simp only at h3)
  rw [List.getElem?_take, if_pos (by omega), List.getElem?_drop, ← hz2, List.getElem?_append_right (Nat.le_refl _), Nat.sub_self] at h3
  have hlt : z - 1 < t.size := by omega
  rw [List.getElem?_eq_getElem (by rw [Array.length_toList]; exact hlt)] at h3
  have h4 : t[z - 1] = c := Option.some.inj h3
  rw [pk_in hlt, h4]
theorem bd_upper {t : ByteArray} {a z : Nat} {x : ByteArray} (h : bdF 0 t a = (x, z)) (hx : x ≠ ⟨#[]⟩) : t.extract a z = x := by
  unfold bdF at h
  rw [if_pos rfl] at h
  split at h
  · cases h; rfl
  · cases h; exact absurd rfl hx
theorem wd_vals {r : Int} {t : ByteArray} {a : Nat} (ha : a < t.size) (h : (bdF r t a).1 ≠ ⟨#[]⟩) : (65 ≤ pk t a ∧ pk t a ≤ 90) ∨ pk t a = 46 ∨ pk t a = 39 := by
  rcases bd_cases r t a ha with h1 | ⟨_, h1⟩
  · rw [h1] at h; exact absurd rfl h
  · rcases h1 with ⟨_, h1⟩ | ⟨_, h1, _⟩
    · exact Or.inl (of_decide_eq_true h1)
    · exact Or.inr h1
theorem RPo.of {B S : Nat} {t : ByteArray} {w W w' : World} {R : Rs} {x : Ending} (hb : Below B w W) (h : RPo B S t W R x w') : RPo B S t w R x w' := ⟨h.1, h.2.1, hb.trans h.2.2⟩
theorem rword_any (x : ByteArray) (w : World) (b0 b1 b2 b3 : Bool) (h0 : (x.toList == [67, 79]) = b0) (h1 : (x.toList == [67, 79, 77, 77, 69, 78, 84]) = b1) (h2 : (x.toList == [80, 82]) = b2) (h3 : (x.toList == [80, 82, 65, 71, 77, 65, 84]) = b3) : Calls Tryz.prog 57 #[.string x] w fun e w' => e = .returned (.bool (b0 || b1 || b2 || b3)) ∧ w = w' := by
  cases b0 <;> cases b1 <;> cases b2 <;> cases b3
  all_goals
    go_enter Tryz.func57, Tryz.ntmps57
    go_wp2
    go_returns
    exact ⟨rfl, rfl⟩
set_option maxRecDepth 100000 in
set_option maxHeartbeats 8000000 in
theorem nx_blank (B S a : Nat) (t : ByteArray) (r b : Int) (v : Value) (l : List Sy) (w : World) (hS : Rc w S t (a : Int) r v 0 b) (hL : Sl w B v l) (hB : B ≤ S) (hl : t.size ≤ 100000) (hll : l.length ≤ 1000000) (ha : a < t.size) (hr : 0 ≤ r ∧ r ≤ 2) (hw : bBl (pk t a) = true) :
    Calls Tryz.prog 23 #[.pointer (some ⟨S, 0, none⟩)] w (RPo B S t w (⟨r, (a : Int) + 1, l, 0, 0⟩)) := by
  have hlt := hS.lt
  have c0 := hS.c0
  have c1 := hS.c1
  have c2 := hS.c2
  have fS := fun i => Own.frozen hS i
  have HC : Hid (∀ W, Below w.heap.size w W → Rc W S t (a : Int) r v 0 b ∧ Sl W B v l) := Lib.hid (fun W hb => ⟨hS.kept hb, hS.sl hL hb⟩)
  have HBD : Hid (Below w.heap.size w w.drew) := Lib.hid (Below.refl _ w).drew
  have HAB : Hid (B ≤ w.heap.size) := Lib.hid (by omega)
  have hp := pk_bd t a
  have hpi := (pk_in ha).symm
  have hq := pk_bd t (a + 1)
  have HAT : Hid (∀ W, Below w.heap.size w W → Calls Tryz.prog 60 #[.pointer (some ⟨S, 0, none⟩), .int .i64 ((a : Int) + 1)] W fun e w' => e = .returned (.int .u8 (pk t (a + 1))) ∧ W = w') := Lib.hid (fun W hb => at_any t S (a + 1) W (hS.kept hb).c0 hl (by omega))
  have HBO := Lib.hid (rbold_any t S a r w.drew (hS.kept HBD.out).c0 (hS.kept HBD.out).c2 hr hl (by omega))
  have hbe := bd_end r t a ha
  obtain ⟨p, hpe⟩ : ∃ p, pk t a = p := ⟨_, rfl⟩
  have HP := Lib.hid hpe
  obtain ⟨q, hqe⟩ : ∃ q, pk t (a + 1) = q := ⟨_, rfl⟩
  have HQ := Lib.hid hqe
  rw [hpe] at hp hpi
  rw [hqe] at hq HAT
  obtain ⟨⟨x, z⟩, hx⟩ : ∃ b, bdF r t a = b := ⟨_, rfl⟩
  have HX := Lib.hid hx
  rw [hx] at HBO hbe
  simp only at HBO hbe
  have h1 := fun w => rb_bl p w hp.1 hp.2
  have h2 := fun w => rb_tx p w hp.1 hp.2
  have h3 := fun w => rb_di p w hp.1 hp.2
  have h4 := fun w => rb_di q w hq.1 hq.2
  have HLE : Hid (∀ W, Below w.heap.size w W → Calls Tryz.prog 62 #[.pointer (some ⟨S, 0, none⟩), .int .u8 p] W fun e w' => e = .returned (.bool (ltB r p)) ∧ W = w') := Lib.hid (fun W hb => letter_any S r p W (hS.kept hb).c2 hp.1 hp.2)
  rw [hpe] at hw
  rw [show bBl p = true from hw] at h1
  obtain ⟨RR, hRR⟩ : ∃ R : Rs, ⟨r, (a : Int) + 1, l, 0, 0⟩ = R := ⟨_, rfl⟩
  rw [hRR]
  have HRR := Lib.hid hRR
  have H1 := Lib.hid h1
  have H2 := Lib.hid h2
  have H3 := Lib.hid h3
  have H4 := Lib.hid h4
  (try clear hx)
  clear h1 h2 h3 h4 hS hL hpe hqe hRR hr hw
  go_enter Tryz.func23, Tryz.ntmps23
  go_upto_region 0 with fail
  go_region
  go_wp2_with (first | (go_at_call 52; (with_reducible refine (H1.out _).mono ?_); rintro e w' ⟨rfl, rfl⟩))
  go_returns
  have hg : Gb S w (w.drew.setCell ⟨S, 1, none⟩ (.int .i64 ((a : Int) + 1))) := (Gb.of HBD.out).set (Or.inl rfl) _
  rw [← HRR.out]
  exact ⟨rfl, ⟨_, _, _, _, v, l, Own.put (HC.out _ HBD.out).1 1 (.int .i64 ((a : Int) + 1)), (HC.out w (Below.refl _ w)).1.slgb (HC.out w (Below.refl _ w)).2 hg, (fun _ => ⟨rfl, rfl, rfl, rfl⟩), (fun h => absurd rfl h)⟩, hg.below hB (by omega)⟩
set_option maxRecDepth 100000 in
set_option maxHeartbeats 8000000 in
theorem nx_form (B S a : Nat) (t : ByteArray) (r b : Int) (v : Value) (l : List Sy) (w : World) (hS : Rc w S t (a : Int) r v 0 b) (hL : Sl w B v l) (hB : B ≤ S) (hl : t.size ≤ 100000) (hll : l.length ≤ 1000000) (ha : a < t.size) (hr : 0 ≤ r ∧ r ≤ 2) (hw : bBl (pk t a) = false) (hw2 : bTx (pk t a) = false) :
    Calls Tryz.prog 23 #[.pointer (some ⟨S, 0, none⟩)] w (RPo B S t w (⟨r, (a : Int), l, (a : Int), 2⟩)) := by
  have hlt := hS.lt
  have c0 := hS.c0
  have c1 := hS.c1
  have c2 := hS.c2
  have fS := fun i => Own.frozen hS i
  have HC : Hid (∀ W, Below w.heap.size w W → Rc W S t (a : Int) r v 0 b ∧ Sl W B v l) := Lib.hid (fun W hb => ⟨hS.kept hb, hS.sl hL hb⟩)
  have HBD : Hid (Below w.heap.size w w.drew) := Lib.hid (Below.refl _ w).drew
  have HAB : Hid (B ≤ w.heap.size) := Lib.hid (by omega)
  have hp := pk_bd t a
  have hpi := (pk_in ha).symm
  have hq := pk_bd t (a + 1)
  have HAT : Hid (∀ W, Below w.heap.size w W → Calls Tryz.prog 60 #[.pointer (some ⟨S, 0, none⟩), .int .i64 ((a : Int) + 1)] W fun e w' => e = .returned (.int .u8 (pk t (a + 1))) ∧ W = w') := Lib.hid (fun W hb => at_any t S (a + 1) W (hS.kept hb).c0 hl (by omega))
  have HBO := Lib.hid (rbold_any t S a r w.drew (hS.kept HBD.out).c0 (hS.kept HBD.out).c2 hr hl (by omega))
  have hbe := bd_end r t a ha
  obtain ⟨p, hpe⟩ : ∃ p, pk t a = p := ⟨_, rfl⟩
  have HP := Lib.hid hpe
  obtain ⟨q, hqe⟩ : ∃ q, pk t (a + 1) = q := ⟨_, rfl⟩
  have HQ := Lib.hid hqe
  rw [hpe] at hp hpi
  rw [hqe] at hq HAT
  obtain ⟨⟨x, z⟩, hx⟩ : ∃ b, bdF r t a = b := ⟨_, rfl⟩
  have HX := Lib.hid hx
  rw [hx] at HBO hbe
  simp only at HBO hbe
  have h1 := fun w => rb_bl p w hp.1 hp.2
  have h2 := fun w => rb_tx p w hp.1 hp.2
  have h3 := fun w => rb_di p w hp.1 hp.2
  have h4 := fun w => rb_di q w hq.1 hq.2
  have HLE : Hid (∀ W, Below w.heap.size w W → Calls Tryz.prog 62 #[.pointer (some ⟨S, 0, none⟩), .int .u8 p] W fun e w' => e = .returned (.bool (ltB r p)) ∧ W = w') := Lib.hid (fun W hb => letter_any S r p W (hS.kept hb).c2 hp.1 hp.2)
  rw [hpe] at hw hw2
  rw [show bBl p = false from hw] at h1
  rw [show bTx p = false from hw2] at h2
  have HFA := Lib.hid (fun (W : World) (hb : Below w.heap.size w W) => fail_new S t (a : Int) r v b 2 (a : Int) W (hS.kept hb))
  obtain ⟨RR, hRR⟩ : ∃ R : Rs, ⟨r, (a : Int), l, (a : Int), 2⟩ = R := ⟨_, rfl⟩
  rw [hRR]
  have HRR := Lib.hid hRR
  have H1 := Lib.hid h1
  have H2 := Lib.hid h2
  have H3 := Lib.hid h3
  have H4 := Lib.hid h4
  (try clear hx)
  clear h1 h2 h3 h4 hS hL hpe hqe hRR hr hw hw2
  go_enter Tryz.func23, Tryz.ntmps23
  go_upto_region 0 with fail
  go_region
  go_wp2_with (first | (go_at_call 52; (with_reducible refine (H1.out _).mono ?_); rintro e w' ⟨rfl, rfl⟩) | (go_at_call 53; (with_reducible refine (H2.out _).mono ?_); rintro e w' ⟨rfl, rfl⟩) | (go_at_call 54; (with_reducible refine (HFA.out _ HBD.out).mono ?_); (rintro e6 w6 ⟨rfl, hS6, hg6⟩)))
  go_returns
  rw [← HRR.out]
  exact ⟨rfl, ⟨_, _, _, _, v, l, hS6, (HC.out _ HBD.out).1.slgb (HC.out _ HBD.out).2 hg6, (fun h => absurd h (show ¬ ((2 : Int) = 0) by decide)), (fun _ => ⟨rfl, rfl⟩)⟩, (HBD.out.mono HAB.out).trans (hg6.below hB (by simp [sz_drew]; omega))⟩
set_option maxRecDepth 100000 in
set_option maxHeartbeats 8000000 in
theorem nx_com (B S a : Nat) (t : ByteArray) (r b : Int) (v : Value) (l : List Sy) (w : World) (hS : Rc w S t (a : Int) r v 0 b) (hL : Sl w B v l) (hB : B ≤ S) (hl : t.size ≤ 100000) (hll : l.length ≤ 1000000) (ha : a < t.size) (hr : 0 ≤ r ∧ r ≤ 2) (hw : pk t a = 35) :
    Calls Tryz.prog 23 #[.pointer (some ⟨S, 0, none⟩)] w (RPo B S t w (⟨r, (cmE t (a : Int) (a + 1)).1, l, (cmE t (a : Int) (a + 1)).2.1, (cmE t (a : Int) (a + 1)).2.2⟩)) := by
  have hlt := hS.lt
  have c0 := hS.c0
  have c1 := hS.c1
  have c2 := hS.c2
  have fS := fun i => Own.frozen hS i
  have HC : Hid (∀ W, Below w.heap.size w W → Rc W S t (a : Int) r v 0 b ∧ Sl W B v l) := Lib.hid (fun W hb => ⟨hS.kept hb, hS.sl hL hb⟩)
  have HBD : Hid (Below w.heap.size w w.drew) := Lib.hid (Below.refl _ w).drew
  have HAB : Hid (B ≤ w.heap.size) := Lib.hid (by omega)
  have hp := pk_bd t a
  have hpi := (pk_in ha).symm
  have hq := pk_bd t (a + 1)
  have HAT : Hid (∀ W, Below w.heap.size w W → Calls Tryz.prog 60 #[.pointer (some ⟨S, 0, none⟩), .int .i64 ((a : Int) + 1)] W fun e w' => e = .returned (.int .u8 (pk t (a + 1))) ∧ W = w') := Lib.hid (fun W hb => at_any t S (a + 1) W (hS.kept hb).c0 hl (by omega))
  have HBO := Lib.hid (rbold_any t S a r w.drew (hS.kept HBD.out).c0 (hS.kept HBD.out).c2 hr hl (by omega))
  have hbe := bd_end r t a ha
  obtain ⟨p, hpe⟩ : ∃ p, pk t a = p := ⟨_, rfl⟩
  have HP := Lib.hid hpe
  obtain ⟨q, hqe⟩ : ∃ q, pk t (a + 1) = q := ⟨_, rfl⟩
  have HQ := Lib.hid hqe
  rw [hpe] at hp hpi
  rw [hqe] at hq HAT
  obtain ⟨⟨x, z⟩, hx⟩ : ∃ b, bdF r t a = b := ⟨_, rfl⟩
  have HX := Lib.hid hx
  rw [hx] at HBO hbe
  simp only at HBO hbe
  have h1 := fun w => rb_bl p w hp.1 hp.2
  have h2 := fun w => rb_tx p w hp.1 hp.2
  have h3 := fun w => rb_di p w hp.1 hp.2
  have h4 := fun w => rb_di q w hq.1 hq.2
  have HLE : Hid (∀ W, Below w.heap.size w W → Calls Tryz.prog 62 #[.pointer (some ⟨S, 0, none⟩), .int .u8 p] W fun e w' => e = .returned (.bool (ltB r p)) ∧ W = w') := Lib.hid (fun W hb => letter_any S r p W (hS.kept hb).c2 hp.1 hp.2)
  rw [hpe] at hw
  subst hw
  rw [show bBl 35 = false from rfl] at h1
  rw [show bTx 35 = true from rfl] at h2
  have HBE : Hid (Below w.heap.size w w.drew.drew) := Lib.hid (Below.refl _ w).drew.drew
  have hcm := rcom_any B S a t r b v l w.drew.drew (hS.kept HBE.out) (hS.sl hL HBE.out) hB hl ha
  have hwr : IntKind.i64.wrap ((a : Int) + 1) = (a : Int) + 1 := IntWalk.i64_in _ (by omega)
  obtain ⟨RR, hRR⟩ : ∃ R : Rs, ⟨r, (cmE t (a : Int) (a + 1)).1, l, (cmE t (a : Int) (a + 1)).2.1, (cmE t (a : Int) (a + 1)).2.2⟩ = R := ⟨_, rfl⟩
  rw [hRR]
  rw [hRR] at hcm
  have HRR := Lib.hid hRR
  have HCM := Lib.hid hcm
  have H1 := Lib.hid h1
  have H2 := Lib.hid h2
  have H3 := Lib.hid h3
  have H4 := Lib.hid h4
  (try clear hx)
  clear hcm h1 h2 h3 h4 hS hL hpe hqe hRR hr 
  go_enter Tryz.func23, Tryz.ntmps23
  go_upto_region 0 with fail
  go_region
  go_upto_region 6 with (first | (go_at_call 52; (with_reducible refine (H1.out _).mono ?_); rintro e w' ⟨rfl, rfl⟩) | (go_at_call 53; (with_reducible refine (H2.out _).mono ?_); rintro e w' ⟨rfl, rfl⟩))
  go_region_with (go_at_call 55; (with_reducible refine HCM.out.mono ?_); (rintro e6 w6 ⟨rfl, h6b, h6c⟩))
  all_goals
    go_wp2_with fail
  all_goals
    go_returns
    exact RPo.of (HBE.out.mono HAB.out) ⟨rfl, h6b, h6c⟩
set_option maxRecDepth 100000 in
set_option maxHeartbeats 8000000 in
theorem nx_dig (B S a : Nat) (t : ByteArray) (r b : Int) (v : Value) (l : List Sy) (w : World) (hS : Rc w S t (a : Int) r v 0 b) (hL : Sl w B v l) (hB : B ≤ S) (hl : t.size ≤ 100000) (hll : l.length ≤ 1000000) (ha : a < t.size) (hr : 0 ≤ r ∧ r ≤ 2) (hw : bDi (pk t a) = true) :
    Calls Tryz.prog 23 #[.pointer (some ⟨S, 0, none⟩)] w (RPo B S t w (nuR r t a l)) := by
  have hlt := hS.lt
  have c0 := hS.c0
  have c1 := hS.c1
  have c2 := hS.c2
  have fS := fun i => Own.frozen hS i
  have HC : Hid (∀ W, Below w.heap.size w W → Rc W S t (a : Int) r v 0 b ∧ Sl W B v l) := Lib.hid (fun W hb => ⟨hS.kept hb, hS.sl hL hb⟩)
  have HBD : Hid (Below w.heap.size w w.drew) := Lib.hid (Below.refl _ w).drew
  have HAB : Hid (B ≤ w.heap.size) := Lib.hid (by omega)
  have hp := pk_bd t a
  have hpi := (pk_in ha).symm
  have hq := pk_bd t (a + 1)
  have HAT : Hid (∀ W, Below w.heap.size w W → Calls Tryz.prog 60 #[.pointer (some ⟨S, 0, none⟩), .int .i64 ((a : Int) + 1)] W fun e w' => e = .returned (.int .u8 (pk t (a + 1))) ∧ W = w') := Lib.hid (fun W hb => at_any t S (a + 1) W (hS.kept hb).c0 hl (by omega))
  have HBO := Lib.hid (rbold_any t S a r w.drew (hS.kept HBD.out).c0 (hS.kept HBD.out).c2 hr hl (by omega))
  have hbe := bd_end r t a ha
  have hco := fun (W : World) (hb : Below w.heap.size w W) => rnum_any B S a t r b v l W (hS.kept hb) (hS.sl hL hb) hB hl hll ha (Or.inl hw)
  obtain ⟨p, hpe⟩ : ∃ p, pk t a = p := ⟨_, rfl⟩
  have HP := Lib.hid hpe
  obtain ⟨q, hqe⟩ : ∃ q, pk t (a + 1) = q := ⟨_, rfl⟩
  have HQ := Lib.hid hqe
  rw [hpe] at hp hpi
  rw [hqe] at hq HAT
  obtain ⟨⟨x, z⟩, hx⟩ : ∃ b, bdF r t a = b := ⟨_, rfl⟩
  have HX := Lib.hid hx
  rw [hx] at HBO hbe
  simp only at HBO hbe
  have h1 := fun w => rb_bl p w hp.1 hp.2
  have h2 := fun w => rb_tx p w hp.1 hp.2
  have h3 := fun w => rb_di p w hp.1 hp.2
  have h4 := fun w => rb_di q w hq.1 hq.2
  have HLE : Hid (∀ W, Below w.heap.size w W → Calls Tryz.prog 62 #[.pointer (some ⟨S, 0, none⟩), .int .u8 p] W fun e w' => e = .returned (.bool (ltB r p)) ∧ W = w') := Lib.hid (fun W hb => letter_any S r p W (hS.kept hb).c2 hp.1 hp.2)
  rw [hpe] at hw
  have hv : 48 ≤ p ∧ p ≤ 57 := of_decide_eq_true hw
  rw [show bBl p = false from decide_eq_false (by omega)] at h1
  rw [show bTx p = true from by unfold bTx; rw [show bPr p = true from decide_eq_true (by omega), Bool.true_or]] at h2
  have k35 : (p == 35) = false := by rw [beq_eq_false_iff_ne]; omega
  rw [show bDi p = true from hw] at h3
  rw [show bdF r t a = (⟨#[]⟩, a) from bd_num ha (Or.inl (by rw [HP.out]; exact hw))] at hx
  cases hx
  obtain ⟨RR, hRR⟩ : ∃ R : Rs, nuR r t a l = R := ⟨_, rfl⟩
  rw [hRR] at hco
  rw [hRR]
  have HCO := Lib.hid hco
  have HRR := Lib.hid hRR
  have H1 := Lib.hid h1
  have H2 := Lib.hid h2
  have H3 := Lib.hid h3
  have H4 := Lib.hid h4
  (try clear hx)
  clear hco h1 h2 h3 h4 hS hL hpe hqe hRR hr hw
  go_enter Tryz.func23, Tryz.ntmps23
  go_upto_region 0 with fail
  go_region
  go_wp2_with (first | (go_at_call 52; (with_reducible refine (H1.out _).mono ?_); rintro e w' ⟨rfl, rfl⟩) | (go_at_call 53; (with_reducible refine (H2.out _).mono ?_); rintro e w' ⟨rfl, rfl⟩) | (go_at_call 56; (with_reducible refine HBO.out.mono ?_); (rintro e5 wb ⟨rfl, kb⟩); (have HBW : Hid (Below w.heap.size w wb) := Lib.hid (HBD.out.trans (kb.mono (by simp [sz_drew])))); (have hRb := (HC.out wb HBW.out).1); (have d0 : wb.cell? ⟨S, 0, none⟩ = some (.string t) := Own.cell hRb 0); (have d1 : wb.cell? ⟨S, 1, none⟩ = some (.int .i64 (a : Int)) := Own.cell hRb 1); (have d2 : wb.cell? ⟨S, 2, none⟩ = some (.int .i64 r) := Own.cell hRb 2); (have fb := fun i => Own.frozen hRb i); (have lb := Own.lt hRb); (have zb := HBW.out.size); clear hRb) | (go_at_call 59; (with_reducible refine (H3.out _).mono ?_); rintro e w' ⟨rfl, rfl⟩) | (go_at_call 61; (with_reducible refine (HCO.out _ HBW.out).mono ?_)))
  rintro e6 w6 h6
  have h7 := h6.1
  subst h7
  go_wp2_with fail
  go_returns
  exact RPo.of (HBW.out.mono HAB.out) h6
set_option maxRecDepth 100000 in
set_option maxHeartbeats 8000000 in
theorem nx_pnt (B S a : Nat) (t : ByteArray) (r b : Int) (v : Value) (l : List Sy) (w : World) (hS : Rc w S t (a : Int) r v 0 b) (hL : Sl w B v l) (hB : B ≤ S) (hl : t.size ≤ 100000) (hll : l.length ≤ 1000000) (ha : a < t.size) (hr : 0 ≤ r ∧ r ≤ 2) (hw : pk t a = 46) (hw2 : bDi (pk t (a + 1)) = true) :
    Calls Tryz.prog 23 #[.pointer (some ⟨S, 0, none⟩)] w (RPo B S t w (nuR r t a l)) := by
  have hlt := hS.lt
  have c0 := hS.c0
  have c1 := hS.c1
  have c2 := hS.c2
  have fS := fun i => Own.frozen hS i
  have HC : Hid (∀ W, Below w.heap.size w W → Rc W S t (a : Int) r v 0 b ∧ Sl W B v l) := Lib.hid (fun W hb => ⟨hS.kept hb, hS.sl hL hb⟩)
  have HBD : Hid (Below w.heap.size w w.drew) := Lib.hid (Below.refl _ w).drew
  have HAB : Hid (B ≤ w.heap.size) := Lib.hid (by omega)
  have hp := pk_bd t a
  have hpi := (pk_in ha).symm
  have hq := pk_bd t (a + 1)
  have HAT : Hid (∀ W, Below w.heap.size w W → Calls Tryz.prog 60 #[.pointer (some ⟨S, 0, none⟩), .int .i64 ((a : Int) + 1)] W fun e w' => e = .returned (.int .u8 (pk t (a + 1))) ∧ W = w') := Lib.hid (fun W hb => at_any t S (a + 1) W (hS.kept hb).c0 hl (by omega))
  have HBO := Lib.hid (rbold_any t S a r w.drew (hS.kept HBD.out).c0 (hS.kept HBD.out).c2 hr hl (by omega))
  have hbe := bd_end r t a ha
  have hco := fun (W : World) (hb : Below w.heap.size w W) => rnum_any B S a t r b v l W (hS.kept hb) (hS.sl hL hb) hB hl hll ha (Or.inr ⟨hw, hw2⟩)
  obtain ⟨p, hpe⟩ : ∃ p, pk t a = p := ⟨_, rfl⟩
  have HP := Lib.hid hpe
  obtain ⟨q, hqe⟩ : ∃ q, pk t (a + 1) = q := ⟨_, rfl⟩
  have HQ := Lib.hid hqe
  rw [hpe] at hp hpi
  rw [hqe] at hq HAT
  obtain ⟨⟨x, z⟩, hx⟩ : ∃ b, bdF r t a = b := ⟨_, rfl⟩
  have HX := Lib.hid hx
  rw [hx] at HBO hbe
  simp only at HBO hbe
  have h1 := fun w => rb_bl p w hp.1 hp.2
  have h2 := fun w => rb_tx p w hp.1 hp.2
  have h3 := fun w => rb_di p w hp.1 hp.2
  have h4 := fun w => rb_di q w hq.1 hq.2
  have HLE : Hid (∀ W, Below w.heap.size w W → Calls Tryz.prog 62 #[.pointer (some ⟨S, 0, none⟩), .int .u8 p] W fun e w' => e = .returned (.bool (ltB r p)) ∧ W = w') := Lib.hid (fun W hb => letter_any S r p W (hS.kept hb).c2 hp.1 hp.2)
  rw [hpe] at hw
  rw [hqe] at hw2
  rw [show bdF r t a = (⟨#[]⟩, a) from bd_num ha (Or.inr ⟨by rw [HP.out]; exact hw, by rw [HQ.out]; exact hw2⟩)] at hx
  cases hx
  subst hw
  rw [show bBl 46 = false from rfl] at h1
  rw [show bTx 46 = true from rfl] at h2
  rw [show bDi 46 = false from rfl] at h3
  rw [show bDi q = true from hw2] at h4
  obtain ⟨RR, hRR⟩ : ∃ R : Rs, nuR r t a l = R := ⟨_, rfl⟩
  rw [hRR] at hco
  rw [hRR]
  have HCO := Lib.hid hco
  have HRR := Lib.hid hRR
  have H1 := Lib.hid h1
  have H2 := Lib.hid h2
  have H3 := Lib.hid h3
  have H4 := Lib.hid h4
  (try clear hx)
  clear hco h1 h2 h3 h4 hS hL hpe hqe hRR hr hw2
  go_enter Tryz.func23, Tryz.ntmps23
  go_upto_region 0 with fail
  go_region
  go_wp2_with (first | (go_at_call 52; (with_reducible refine (H1.out _).mono ?_); rintro e w' ⟨rfl, rfl⟩) | (go_at_call 53; (with_reducible refine (H2.out _).mono ?_); rintro e w' ⟨rfl, rfl⟩) | (go_at_call 56; (with_reducible refine HBO.out.mono ?_); (rintro e5 wb ⟨rfl, kb⟩); (have HBW : Hid (Below w.heap.size w wb) := Lib.hid (HBD.out.trans (kb.mono (by simp [sz_drew])))); (have hRb := (HC.out wb HBW.out).1); (have d0 : wb.cell? ⟨S, 0, none⟩ = some (.string t) := Own.cell hRb 0); (have d1 : wb.cell? ⟨S, 1, none⟩ = some (.int .i64 (a : Int)) := Own.cell hRb 1); (have d2 : wb.cell? ⟨S, 2, none⟩ = some (.int .i64 r) := Own.cell hRb 2); (have fb := fun i => Own.frozen hRb i); (have lb := Own.lt hRb); (have zb := HBW.out.size); clear hRb) | (go_at_call 59; (with_reducible refine (H3.out _).mono ?_); rintro e w' ⟨rfl, rfl⟩) | (go_at_call 59; (with_reducible refine (H4.out _).mono ?_); rintro e w' ⟨rfl, rfl⟩) | (go_at_call 60; (with_reducible refine (HAT.out _ HBW.out).mono ?_); rintro e w' ⟨rfl, rfl⟩) | (go_at_call 61; (with_reducible refine (HCO.out _ HBW.out).mono ?_)))
  rintro e6 w6 h6
  have h7 := h6.1
  subst h7
  go_wp2_with fail
  go_returns
  exact RPo.of (HBW.out.mono HAB.out) h6
set_option maxRecDepth 100000 in
set_option maxHeartbeats 8000000 in
theorem nx_tag (B S a : Nat) (t : ByteArray) (r b : Int) (v : Value) (l : List Sy) (w : World) (hS : Rc w S t (a : Int) r v 0 b) (hL : Sl w B v l) (hB : B ≤ S) (hl : t.size ≤ 100000) (hll : l.length ≤ 1000000) (ha : a < t.size) (hr : 0 ≤ r ∧ r ≤ 2) (hw : ltB r (pk t a) = true) :
    Calls Tryz.prog 23 #[.pointer (some ⟨S, 0, none⟩)] w (RPo B S t w (shR r (a : Int) ((rnF bSd bSd0 r t a).2 : Int) 2 ⟨(rnF bSd bSd0 r t a).1.toArray⟩ l)) := by
  have hlt := hS.lt
  have c0 := hS.c0
  have c1 := hS.c1
  have c2 := hS.c2
  have fS := fun i => Own.frozen hS i
  have HC : Hid (∀ W, Below w.heap.size w W → Rc W S t (a : Int) r v 0 b ∧ Sl W B v l) := Lib.hid (fun W hb => ⟨hS.kept hb, hS.sl hL hb⟩)
  have HBD : Hid (Below w.heap.size w w.drew) := Lib.hid (Below.refl _ w).drew
  have HAB : Hid (B ≤ w.heap.size) := Lib.hid (by omega)
  have hp := pk_bd t a
  have hpi := (pk_in ha).symm
  have hq := pk_bd t (a + 1)
  have HAT : Hid (∀ W, Below w.heap.size w W → Calls Tryz.prog 60 #[.pointer (some ⟨S, 0, none⟩), .int .i64 ((a : Int) + 1)] W fun e w' => e = .returned (.int .u8 (pk t (a + 1))) ∧ W = w') := Lib.hid (fun W hb => at_any t S (a + 1) W (hS.kept hb).c0 hl (by omega))
  have HBO := Lib.hid (rbold_any t S a r w.drew (hS.kept HBD.out).c0 (hS.kept HBD.out).c2 hr hl (by omega))
  have hbe := bd_end r t a ha
  have hco := fun (W : World) (hb : Below w.heap.size w W) => rtag_any B S a t r b v l W (hS.kept hb) (hS.sl hL hb) hB hl hll (by omega) (by have := lt_vals hw; exact ru_no (decide_eq_false (by omega))) _ _ rfl rfl
  obtain ⟨p, hpe⟩ : ∃ p, pk t a = p := ⟨_, rfl⟩
  have HP := Lib.hid hpe
  obtain ⟨q, hqe⟩ : ∃ q, pk t (a + 1) = q := ⟨_, rfl⟩
  have HQ := Lib.hid hqe
  rw [hpe] at hp hpi
  rw [hqe] at hq HAT
  obtain ⟨⟨x, z⟩, hx⟩ : ∃ b, bdF r t a = b := ⟨_, rfl⟩
  have HX := Lib.hid hx
  rw [hx] at HBO hbe
  simp only at HBO hbe
  have h1 := fun w => rb_bl p w hp.1 hp.2
  have h2 := fun w => rb_tx p w hp.1 hp.2
  have h3 := fun w => rb_di p w hp.1 hp.2
  have h4 := fun w => rb_di q w hq.1 hq.2
  have HLE : Hid (∀ W, Below w.heap.size w W → Calls Tryz.prog 62 #[.pointer (some ⟨S, 0, none⟩), .int .u8 p] W fun e w' => e = .returned (.bool (ltB r p)) ∧ W = w') := Lib.hid (fun W hb => letter_any S r p W (hS.kept hb).c2 hp.1 hp.2)
  rw [hpe] at hw
  rw [hw] at HLE
  have hv := lt_vals hw
  rw [show bBl p = false from decide_eq_false (by omega)] at h1
  rw [show bTx p = true from by unfold bTx; rw [show bPr p = true from decide_eq_true (by omega), Bool.true_or]] at h2
  have k35 : (p == 35) = false := by rw [beq_eq_false_iff_ne]; omega
  have k46 : (p == 46) = false := by rw [beq_eq_false_iff_ne]; omega
  rw [show bDi p = false from decide_eq_false (by omega)] at h3
  rw [show bdF r t a = (⟨#[]⟩, a) from bd_tag ha (by rw [HP.out]; exact hw)] at hx
  cases hx
  clear hv
  obtain ⟨RR, hRR⟩ : ∃ R : Rs, shR r (a : Int) ((rnF bSd bSd0 r t a).2 : Int) 2 ⟨(rnF bSd bSd0 r t a).1.toArray⟩ l = R := ⟨_, rfl⟩
  rw [hRR] at hco
  rw [hRR]
  have HCO := Lib.hid hco
  have HRR := Lib.hid hRR
  have H1 := Lib.hid h1
  have H2 := Lib.hid h2
  have H3 := Lib.hid h3
  have H4 := Lib.hid h4
  (try clear hx)
  clear hco h1 h2 h3 h4 hS hL hpe hqe hRR hr hw
  go_enter Tryz.func23, Tryz.ntmps23
  go_upto_region 0 with fail
  go_region
  go_wp2_with (first | (go_at_call 52; (with_reducible refine (H1.out _).mono ?_); rintro e w' ⟨rfl, rfl⟩) | (go_at_call 53; (with_reducible refine (H2.out _).mono ?_); rintro e w' ⟨rfl, rfl⟩) | (go_at_call 56; (with_reducible refine HBO.out.mono ?_); (rintro e5 wb ⟨rfl, kb⟩); (have HBW : Hid (Below w.heap.size w wb) := Lib.hid (HBD.out.trans (kb.mono (by simp [sz_drew])))); (have hRb := (HC.out wb HBW.out).1); (have d0 : wb.cell? ⟨S, 0, none⟩ = some (.string t) := Own.cell hRb 0); (have d1 : wb.cell? ⟨S, 1, none⟩ = some (.int .i64 (a : Int)) := Own.cell hRb 1); (have d2 : wb.cell? ⟨S, 2, none⟩ = some (.int .i64 r) := Own.cell hRb 2); (have fb := fun i => Own.frozen hRb i); (have lb := Own.lt hRb); (have zb := HBW.out.size); clear hRb) | (go_at_call 59; (with_reducible refine (H3.out _).mono ?_); rintro e w' ⟨rfl, rfl⟩) | (go_at_call 62; (with_reducible refine (HLE.out _ HBW.out).mono ?_); rintro e w' ⟨rfl, rfl⟩) | (go_at_call 63; (with_reducible refine (HCO.out _ HBW.out).mono ?_)))
  rintro e6 w6 h6
  have h7 := h6.1
  subst h7
  go_wp2_with fail
  go_returns
  exact RPo.of (HBW.out.mono HAB.out) h6
set_option maxRecDepth 100000 in
set_option maxHeartbeats 8000000 in
theorem nx_quo (B S a : Nat) (t : ByteArray) (r b : Int) (v : Value) (l : List Sy) (w : World) (hS : Rc w S t (a : Int) r v 0 b) (hL : Sl w B v l) (hB : B ≤ S) (hl : t.size ≤ 100000) (hll : l.length ≤ 1000000) (ha : a < t.size) (hr : 0 ≤ r ∧ r ≤ 2) (hw : pk t a = 34) :
    Calls Tryz.prog 23 #[.pointer (some ⟨S, 0, none⟩)] w (RPo B S t w (quR r t a l)) := by
  have hlt := hS.lt
  have c0 := hS.c0
  have c1 := hS.c1
  have c2 := hS.c2
  have fS := fun i => Own.frozen hS i
  have HC : Hid (∀ W, Below w.heap.size w W → Rc W S t (a : Int) r v 0 b ∧ Sl W B v l) := Lib.hid (fun W hb => ⟨hS.kept hb, hS.sl hL hb⟩)
  have HBD : Hid (Below w.heap.size w w.drew) := Lib.hid (Below.refl _ w).drew
  have HAB : Hid (B ≤ w.heap.size) := Lib.hid (by omega)
  have hp := pk_bd t a
  have hpi := (pk_in ha).symm
  have hq := pk_bd t (a + 1)
  have HAT : Hid (∀ W, Below w.heap.size w W → Calls Tryz.prog 60 #[.pointer (some ⟨S, 0, none⟩), .int .i64 ((a : Int) + 1)] W fun e w' => e = .returned (.int .u8 (pk t (a + 1))) ∧ W = w') := Lib.hid (fun W hb => at_any t S (a + 1) W (hS.kept hb).c0 hl (by omega))
  have HBO := Lib.hid (rbold_any t S a r w.drew (hS.kept HBD.out).c0 (hS.kept HBD.out).c2 hr hl (by omega))
  have hbe := bd_end r t a ha
  have hco := fun (W : World) (hb : Below w.heap.size w W) => rtext_any B S a t r b v l W (hS.kept hb) (hS.sl hL hb) hB hl hll ha
  obtain ⟨p, hpe⟩ : ∃ p, pk t a = p := ⟨_, rfl⟩
  have HP := Lib.hid hpe
  obtain ⟨q, hqe⟩ : ∃ q, pk t (a + 1) = q := ⟨_, rfl⟩
  have HQ := Lib.hid hqe
  rw [hpe] at hp hpi
  rw [hqe] at hq HAT
  obtain ⟨⟨x, z⟩, hx⟩ : ∃ b, bdF r t a = b := ⟨_, rfl⟩
  have HX := Lib.hid hx
  rw [hx] at HBO hbe
  simp only at HBO hbe
  have h1 := fun w => rb_bl p w hp.1 hp.2
  have h2 := fun w => rb_tx p w hp.1 hp.2
  have h3 := fun w => rb_di p w hp.1 hp.2
  have h4 := fun w => rb_di q w hq.1 hq.2
  have HLE : Hid (∀ W, Below w.heap.size w W → Calls Tryz.prog 62 #[.pointer (some ⟨S, 0, none⟩), .int .u8 p] W fun e w' => e = .returned (.bool (ltB r p)) ∧ W = w') := Lib.hid (fun W hb => letter_any S r p W (hS.kept hb).c2 hp.1 hp.2)
  rw [hpe] at hw
  rw [show bdF r t a = (⟨#[]⟩, a) from bd_other ha (by rw [HP.out]; exact Or.inl hw)] at hx
  cases hx
  subst hw
  rw [show ltB r 34 = false from by unfold ltB; rw [show bCa 34 = false from rfl, Bool.and_false]; rfl] at HLE
  rw [show bBl 34 = false from rfl] at h1
  rw [show bTx 34 = true from rfl] at h2
  rw [show bDi 34 = false from rfl] at h3
  obtain ⟨RR, hRR⟩ : ∃ R : Rs, quR r t a l = R := ⟨_, rfl⟩
  rw [hRR] at hco
  rw [hRR]
  have HCO := Lib.hid hco
  have HRR := Lib.hid hRR
  have H1 := Lib.hid h1
  have H2 := Lib.hid h2
  have H3 := Lib.hid h3
  have H4 := Lib.hid h4
  (try clear hx)
  clear hco h1 h2 h3 h4 hS hL hpe hqe hRR hr 
  go_enter Tryz.func23, Tryz.ntmps23
  go_upto_region 0 with fail
  go_region
  go_wp2_with (first | (go_at_call 52; (with_reducible refine (H1.out _).mono ?_); rintro e w' ⟨rfl, rfl⟩) | (go_at_call 53; (with_reducible refine (H2.out _).mono ?_); rintro e w' ⟨rfl, rfl⟩) | (go_at_call 56; (with_reducible refine HBO.out.mono ?_); (rintro e5 wb ⟨rfl, kb⟩); (have HBW : Hid (Below w.heap.size w wb) := Lib.hid (HBD.out.trans (kb.mono (by simp [sz_drew])))); (have hRb := (HC.out wb HBW.out).1); (have d0 : wb.cell? ⟨S, 0, none⟩ = some (.string t) := Own.cell hRb 0); (have d1 : wb.cell? ⟨S, 1, none⟩ = some (.int .i64 (a : Int)) := Own.cell hRb 1); (have d2 : wb.cell? ⟨S, 2, none⟩ = some (.int .i64 r) := Own.cell hRb 2); (have fb := fun i => Own.frozen hRb i); (have lb := Own.lt hRb); (have zb := HBW.out.size); clear hRb) | (go_at_call 59; (with_reducible refine (H3.out _).mono ?_); rintro e w' ⟨rfl, rfl⟩) | (go_at_call 62; (with_reducible refine (HLE.out _ HBW.out).mono ?_); rintro e w' ⟨rfl, rfl⟩) | (go_at_call 64; (with_reducible refine (HCO.out _ HBW.out).mono ?_)))
  rintro e6 w6 h6
  have h7 := h6.1
  subst h7
  go_wp2_with fail
  go_returns
  exact RPo.of (HBW.out.mono HAB.out) h6
set_option maxRecDepth 100000 in
set_option maxHeartbeats 8000000 in
theorem nx_for (B S a : Nat) (t : ByteArray) (r b : Int) (v : Value) (l : List Sy) (w : World) (hS : Rc w S t (a : Int) r v 0 b) (hL : Sl w B v l) (hB : B ≤ S) (hl : t.size ≤ 100000) (hll : l.length ≤ 1000000) (ha : a < t.size) (hr : 0 ≤ r ∧ r ≤ 2) (hw : pk t a = 36) :
    Calls Tryz.prog 23 #[.pointer (some ⟨S, 0, none⟩)] w (RPo B S t w (fmR r t a l)) := by
  have hlt := hS.lt
  have c0 := hS.c0
  have c1 := hS.c1
  have c2 := hS.c2
  have fS := fun i => Own.frozen hS i
  have HC : Hid (∀ W, Below w.heap.size w W → Rc W S t (a : Int) r v 0 b ∧ Sl W B v l) := Lib.hid (fun W hb => ⟨hS.kept hb, hS.sl hL hb⟩)
  have HBD : Hid (Below w.heap.size w w.drew) := Lib.hid (Below.refl _ w).drew
  have HAB : Hid (B ≤ w.heap.size) := Lib.hid (by omega)
  have hp := pk_bd t a
  have hpi := (pk_in ha).symm
  have hq := pk_bd t (a + 1)
  have HAT : Hid (∀ W, Below w.heap.size w W → Calls Tryz.prog 60 #[.pointer (some ⟨S, 0, none⟩), .int .i64 ((a : Int) + 1)] W fun e w' => e = .returned (.int .u8 (pk t (a + 1))) ∧ W = w') := Lib.hid (fun W hb => at_any t S (a + 1) W (hS.kept hb).c0 hl (by omega))
  have HBO := Lib.hid (rbold_any t S a r w.drew (hS.kept HBD.out).c0 (hS.kept HBD.out).c2 hr hl (by omega))
  have hbe := bd_end r t a ha
  have hco := fun (W : World) (hb : Below w.heap.size w W) => rformat_any B S a t r b v l W (hS.kept hb) (hS.sl hL hb) hB hl hll ha
  obtain ⟨p, hpe⟩ : ∃ p, pk t a = p := ⟨_, rfl⟩
  have HP := Lib.hid hpe
  obtain ⟨q, hqe⟩ : ∃ q, pk t (a + 1) = q := ⟨_, rfl⟩
  have HQ := Lib.hid hqe
  rw [hpe] at hp hpi
  rw [hqe] at hq HAT
  obtain ⟨⟨x, z⟩, hx⟩ : ∃ b, bdF r t a = b := ⟨_, rfl⟩
  have HX := Lib.hid hx
  rw [hx] at HBO hbe
  simp only at HBO hbe
  have h1 := fun w => rb_bl p w hp.1 hp.2
  have h2 := fun w => rb_tx p w hp.1 hp.2
  have h3 := fun w => rb_di p w hp.1 hp.2
  have h4 := fun w => rb_di q w hq.1 hq.2
  have HLE : Hid (∀ W, Below w.heap.size w W → Calls Tryz.prog 62 #[.pointer (some ⟨S, 0, none⟩), .int .u8 p] W fun e w' => e = .returned (.bool (ltB r p)) ∧ W = w') := Lib.hid (fun W hb => letter_any S r p W (hS.kept hb).c2 hp.1 hp.2)
  rw [hpe] at hw
  rw [show bdF r t a = (⟨#[]⟩, a) from bd_other ha (by rw [HP.out]; exact Or.inr hw)] at hx
  cases hx
  subst hw
  rw [show ltB r 36 = false from by unfold ltB; rw [show bCa 36 = false from rfl, Bool.and_false]; rfl] at HLE
  rw [show bBl 36 = false from rfl] at h1
  rw [show bTx 36 = true from rfl] at h2
  rw [show bDi 36 = false from rfl] at h3
  obtain ⟨RR, hRR⟩ : ∃ R : Rs, fmR r t a l = R := ⟨_, rfl⟩
  rw [hRR] at hco
  rw [hRR]
  have HCO := Lib.hid hco
  have HRR := Lib.hid hRR
  have H1 := Lib.hid h1
  have H2 := Lib.hid h2
  have H3 := Lib.hid h3
  have H4 := Lib.hid h4
  (try clear hx)
  clear hco h1 h2 h3 h4 hS hL hpe hqe hRR hr 
  go_enter Tryz.func23, Tryz.ntmps23
  go_upto_region 0 with fail
  go_region
  go_wp2_with (first | (go_at_call 52; (with_reducible refine (H1.out _).mono ?_); rintro e w' ⟨rfl, rfl⟩) | (go_at_call 53; (with_reducible refine (H2.out _).mono ?_); rintro e w' ⟨rfl, rfl⟩) | (go_at_call 56; (with_reducible refine HBO.out.mono ?_); (rintro e5 wb ⟨rfl, kb⟩); (have HBW : Hid (Below w.heap.size w wb) := Lib.hid (HBD.out.trans (kb.mono (by simp [sz_drew])))); (have hRb := (HC.out wb HBW.out).1); (have d0 : wb.cell? ⟨S, 0, none⟩ = some (.string t) := Own.cell hRb 0); (have d1 : wb.cell? ⟨S, 1, none⟩ = some (.int .i64 (a : Int)) := Own.cell hRb 1); (have d2 : wb.cell? ⟨S, 2, none⟩ = some (.int .i64 r) := Own.cell hRb 2); (have fb := fun i => Own.frozen hRb i); (have lb := Own.lt hRb); (have zb := HBW.out.size); clear hRb) | (go_at_call 59; (with_reducible refine (H3.out _).mono ?_); rintro e w' ⟨rfl, rfl⟩) | (go_at_call 62; (with_reducible refine (HLE.out _ HBW.out).mono ?_); rintro e w' ⟨rfl, rfl⟩) | (go_at_call 65; (with_reducible refine (HCO.out _ HBW.out).mono ?_)))
  rintro e6 w6 h6
  have h7 := h6.1
  subst h7
  go_wp2_with fail
  go_returns
  exact RPo.of (HBW.out.mono HAB.out) h6
set_option maxRecDepth 100000 in
set_option maxHeartbeats 8000000 in
theorem nx_wd0 (B S a : Nat) (t : ByteArray) (r b : Int) (v : Value) (l : List Sy) (w : World) (hS : Rc w S t (a : Int) r v 0 b) (hL : Sl w B v l) (hB : B ≤ S) (hl : t.size ≤ 100000) (hll : l.length ≤ 1000000) (ha : a < t.size) (hr : 0 ≤ r ∧ r ≤ 2) (hw : (bdF r t a).1 = ⟨#[67, 79]⟩) :
    Calls Tryz.prog 23 #[.pointer (some ⟨S, 0, none⟩)] w (RPo B S t w (rmR r t ⟨#[67, 79]⟩ (a : Int) (bdF r t a).2 (false || false) l)) := by
  have hlt := hS.lt
  have c0 := hS.c0
  have c1 := hS.c1
  have c2 := hS.c2
  have fS := fun i => Own.frozen hS i
  have HC : Hid (∀ W, Below w.heap.size w W → Rc W S t (a : Int) r v 0 b ∧ Sl W B v l) := Lib.hid (fun W hb => ⟨hS.kept hb, hS.sl hL hb⟩)
  have HBD : Hid (Below w.heap.size w w.drew) := Lib.hid (Below.refl _ w).drew
  have HAB : Hid (B ≤ w.heap.size) := Lib.hid (by omega)
  have hp := pk_bd t a
  have hpi := (pk_in ha).symm
  have hq := pk_bd t (a + 1)
  have HAT : Hid (∀ W, Below w.heap.size w W → Calls Tryz.prog 60 #[.pointer (some ⟨S, 0, none⟩), .int .i64 ((a : Int) + 1)] W fun e w' => e = .returned (.int .u8 (pk t (a + 1))) ∧ W = w') := Lib.hid (fun W hb => at_any t S (a + 1) W (hS.kept hb).c0 hl (by omega))
  have HBO := Lib.hid (rbold_any t S a r w.drew (hS.kept HBD.out).c0 (hS.kept HBD.out).c2 hr hl (by omega))
  have hbe := bd_end r t a ha
  have hne : (bdF r t a).1 ≠ ⟨#[]⟩ := by rw [hw]; decide
  have hup := bd_up hne
  have hv := wd_vals ha hne
  have hla : r = 0 → bSd (pk t ((bdF r t a).2 - 1)) = false := by
    intro h0
    have h5 : bdF 0 t a = (⟨#[67, 79]⟩, (bdF r t a).2) := by rw [← hw, h0]
    rw [ext_last (m := [67]) (c := 79) (bd_upper h5 (by decide)) hbe.2]
    decide
  have hco := fun (W : World) (hb : Below w.heap.size w W) => rrem_any B S a (bdF r t a).2 t ⟨#[67, 79]⟩ false false r b v l W (hS.kept hb) (hS.sl hL hb) hB hl (by have := hup; omega) hbe.2 hr (by decide) (by decide) (by rw [ByteArray.toList_eq]; decide) (by rw [ByteArray.toList_eq]; decide) hla
  obtain ⟨p, hpe⟩ : ∃ p, pk t a = p := ⟨_, rfl⟩
  have HP := Lib.hid hpe
  obtain ⟨q, hqe⟩ : ∃ q, pk t (a + 1) = q := ⟨_, rfl⟩
  have HQ := Lib.hid hqe
  rw [hpe] at hp hpi
  rw [hqe] at hq HAT
  obtain ⟨⟨x, z⟩, hx⟩ : ∃ b, bdF r t a = b := ⟨_, rfl⟩
  have HX := Lib.hid hx
  rw [hx] at HBO hbe
  simp only at HBO hbe
  have h1 := fun w => rb_bl p w hp.1 hp.2
  have h2 := fun w => rb_tx p w hp.1 hp.2
  have h3 := fun w => rb_di p w hp.1 hp.2
  have h4 := fun w => rb_di q w hq.1 hq.2
  have HLE : Hid (∀ W, Below w.heap.size w W → Calls Tryz.prog 62 #[.pointer (some ⟨S, 0, none⟩), .int .u8 p] W fun e w' => e = .returned (.bool (ltB r p)) ∧ W = w') := Lib.hid (fun W hb => letter_any S r p W (hS.kept hb).c2 hp.1 hp.2)
  rw [hpe] at hv
  rw [hx] at hw hup hco hla ⊢
  simp only at hw hup hco hla ⊢
  rw [show bBl p = false from decide_eq_false (by omega)] at h1
  rw [show bTx p = true from by unfold bTx; rw [show bPr p = true from decide_eq_true (by omega), Bool.true_or]] at h2
  have k35 : (p == 35) = false := by rw [beq_eq_false_iff_ne]; omega
  subst hw
  have hq0 : ((⟨#[67, 79]⟩ : ByteArray).toList == [67, 79]) = true := by rw [ByteArray.toList_eq]; decide
  have hq1 : ((⟨#[67, 79]⟩ : ByteArray).toList == [67, 79, 77, 77, 69, 78, 84]) = false := by rw [ByteArray.toList_eq]; decide
  have hq2 : ((⟨#[67, 79]⟩ : ByteArray).toList == [80, 82]) = false := by rw [ByteArray.toList_eq]; decide
  have hq3 : ((⟨#[67, 79]⟩ : ByteArray).toList == [80, 82, 65, 71, 77, 65, 84]) = false := by rw [ByteArray.toList_eq]; decide
  have HWD := Lib.hid (fun W => rword_any _ W _ _ _ _ hq0 hq1 hq2 hq3)
  clear hq0 hq1 hq2 hq3
  have hzz : (a : Int) < (z : Int) := by omega
  obtain ⟨RR, hRR⟩ : ∃ R : Rs, rmR r t ⟨#[67, 79]⟩ (a : Int) z (false || false) l = R := ⟨_, rfl⟩
  rw [hRR] at hco
  rw [hRR]
  have HCO := Lib.hid hco
  have HRR := Lib.hid hRR
  have H1 := Lib.hid h1
  have H2 := Lib.hid h2
  have H3 := Lib.hid h3
  have H4 := Lib.hid h4
  (try clear hx)
  clear hco h1 h2 h3 h4 hS hL hpe hqe hRR hr hla hv hup hne
  go_enter Tryz.func23, Tryz.ntmps23
  go_upto_region 0 with fail
  go_region
  go_wp2_with (first | (go_at_call 52; (with_reducible refine (H1.out _).mono ?_); rintro e w' ⟨rfl, rfl⟩) | (go_at_call 53; (with_reducible refine (H2.out _).mono ?_); rintro e w' ⟨rfl, rfl⟩) | (go_at_call 56; (with_reducible refine HBO.out.mono ?_); (rintro e5 wb ⟨rfl, kb⟩); (have HBW : Hid (Below w.heap.size w wb) := Lib.hid (HBD.out.trans (kb.mono (by simp [sz_drew])))); (have hRb := (HC.out wb HBW.out).1); (have d0 : wb.cell? ⟨S, 0, none⟩ = some (.string t) := Own.cell hRb 0); (have d1 : wb.cell? ⟨S, 1, none⟩ = some (.int .i64 (a : Int)) := Own.cell hRb 1); (have d2 : wb.cell? ⟨S, 2, none⟩ = some (.int .i64 r) := Own.cell hRb 2); (have fb := fun i => Own.frozen hRb i); (have lb := Own.lt hRb); (have zb := HBW.out.size); clear hRb) | (go_at_call 57; (with_reducible refine (HWD.out _).mono ?_); rintro e w' ⟨rfl, rfl⟩) | (go_at_call 55; (with_reducible refine (HCO.out _ HBW.out).mono ?_)))
  rintro e6 w6 h6
  have h7 := h6.1
  subst h7
  go_wp2_with fail
  go_returns
  exact RPo.of (HBW.out.mono HAB.out) h6
set_option maxRecDepth 100000 in
set_option maxHeartbeats 8000000 in
theorem nx_wd1 (B S a : Nat) (t : ByteArray) (r b : Int) (v : Value) (l : List Sy) (w : World) (hS : Rc w S t (a : Int) r v 0 b) (hL : Sl w B v l) (hB : B ≤ S) (hl : t.size ≤ 100000) (hll : l.length ≤ 1000000) (ha : a < t.size) (hr : 0 ≤ r ∧ r ≤ 2) (hw : (bdF r t a).1 = ⟨#[67, 79, 77, 77, 69, 78, 84]⟩) :
    Calls Tryz.prog 23 #[.pointer (some ⟨S, 0, none⟩)] w (RPo B S t w (rmR r t ⟨#[67, 79, 77, 77, 69, 78, 84]⟩ (a : Int) (bdF r t a).2 (false || false) l)) := by
  have hlt := hS.lt
  have c0 := hS.c0
  have c1 := hS.c1
  have c2 := hS.c2
  have fS := fun i => Own.frozen hS i
  have HC : Hid (∀ W, Below w.heap.size w W → Rc W S t (a : Int) r v 0 b ∧ Sl W B v l) := Lib.hid (fun W hb => ⟨hS.kept hb, hS.sl hL hb⟩)
  have HBD : Hid (Below w.heap.size w w.drew) := Lib.hid (Below.refl _ w).drew
  have HAB : Hid (B ≤ w.heap.size) := Lib.hid (by omega)
  have hp := pk_bd t a
  have hpi := (pk_in ha).symm
  have hq := pk_bd t (a + 1)
  have HAT : Hid (∀ W, Below w.heap.size w W → Calls Tryz.prog 60 #[.pointer (some ⟨S, 0, none⟩), .int .i64 ((a : Int) + 1)] W fun e w' => e = .returned (.int .u8 (pk t (a + 1))) ∧ W = w') := Lib.hid (fun W hb => at_any t S (a + 1) W (hS.kept hb).c0 hl (by omega))
  have HBO := Lib.hid (rbold_any t S a r w.drew (hS.kept HBD.out).c0 (hS.kept HBD.out).c2 hr hl (by omega))
  have hbe := bd_end r t a ha
  have hne : (bdF r t a).1 ≠ ⟨#[]⟩ := by rw [hw]; decide
  have hup := bd_up hne
  have hv := wd_vals ha hne
  have hla : r = 0 → bSd (pk t ((bdF r t a).2 - 1)) = false := by
    intro h0
    have h5 : bdF 0 t a = (⟨#[67, 79, 77, 77, 69, 78, 84]⟩, (bdF r t a).2) := by rw [← hw, h0]
    rw [ext_last (m := [67, 79, 77, 77, 69, 78]) (c := 84) (bd_upper h5 (by decide)) hbe.2]
    decide
  have hco := fun (W : World) (hb : Below w.heap.size w W) => rrem_any B S a (bdF r t a).2 t ⟨#[67, 79, 77, 77, 69, 78, 84]⟩ false false r b v l W (hS.kept hb) (hS.sl hL hb) hB hl (by have := hup; omega) hbe.2 hr (by decide) (by decide) (by rw [ByteArray.toList_eq]; decide) (by rw [ByteArray.toList_eq]; decide) hla
  obtain ⟨p, hpe⟩ : ∃ p, pk t a = p := ⟨_, rfl⟩
  have HP := Lib.hid hpe
  obtain ⟨q, hqe⟩ : ∃ q, pk t (a + 1) = q := ⟨_, rfl⟩
  have HQ := Lib.hid hqe
  rw [hpe] at hp hpi
  rw [hqe] at hq HAT
  obtain ⟨⟨x, z⟩, hx⟩ : ∃ b, bdF r t a = b := ⟨_, rfl⟩
  have HX := Lib.hid hx
  rw [hx] at HBO hbe
  simp only at HBO hbe
  have h1 := fun w => rb_bl p w hp.1 hp.2
  have h2 := fun w => rb_tx p w hp.1 hp.2
  have h3 := fun w => rb_di p w hp.1 hp.2
  have h4 := fun w => rb_di q w hq.1 hq.2
  have HLE : Hid (∀ W, Below w.heap.size w W → Calls Tryz.prog 62 #[.pointer (some ⟨S, 0, none⟩), .int .u8 p] W fun e w' => e = .returned (.bool (ltB r p)) ∧ W = w') := Lib.hid (fun W hb => letter_any S r p W (hS.kept hb).c2 hp.1 hp.2)
  rw [hpe] at hv
  rw [hx] at hw hup hco hla ⊢
  simp only at hw hup hco hla ⊢
  rw [show bBl p = false from decide_eq_false (by omega)] at h1
  rw [show bTx p = true from by unfold bTx; rw [show bPr p = true from decide_eq_true (by omega), Bool.true_or]] at h2
  have k35 : (p == 35) = false := by rw [beq_eq_false_iff_ne]; omega
  subst hw
  have hq0 : ((⟨#[67, 79, 77, 77, 69, 78, 84]⟩ : ByteArray).toList == [67, 79]) = false := by rw [ByteArray.toList_eq]; decide
  have hq1 : ((⟨#[67, 79, 77, 77, 69, 78, 84]⟩ : ByteArray).toList == [67, 79, 77, 77, 69, 78, 84]) = true := by rw [ByteArray.toList_eq]; decide
  have hq2 : ((⟨#[67, 79, 77, 77, 69, 78, 84]⟩ : ByteArray).toList == [80, 82]) = false := by rw [ByteArray.toList_eq]; decide
  have hq3 : ((⟨#[67, 79, 77, 77, 69, 78, 84]⟩ : ByteArray).toList == [80, 82, 65, 71, 77, 65, 84]) = false := by rw [ByteArray.toList_eq]; decide
  have HWD := Lib.hid (fun W => rword_any _ W _ _ _ _ hq0 hq1 hq2 hq3)
  clear hq0 hq1 hq2 hq3
  have hzz : (a : Int) < (z : Int) := by omega
  obtain ⟨RR, hRR⟩ : ∃ R : Rs, rmR r t ⟨#[67, 79, 77, 77, 69, 78, 84]⟩ (a : Int) z (false || false) l = R := ⟨_, rfl⟩
  rw [hRR] at hco
  rw [hRR]
  have HCO := Lib.hid hco
  have HRR := Lib.hid hRR
  have H1 := Lib.hid h1
  have H2 := Lib.hid h2
  have H3 := Lib.hid h3
  have H4 := Lib.hid h4
  (try clear hx)
  clear hco h1 h2 h3 h4 hS hL hpe hqe hRR hr hla hv hup hne
  go_enter Tryz.func23, Tryz.ntmps23
  go_upto_region 0 with fail
  go_region
  go_wp2_with (first | (go_at_call 52; (with_reducible refine (H1.out _).mono ?_); rintro e w' ⟨rfl, rfl⟩) | (go_at_call 53; (with_reducible refine (H2.out _).mono ?_); rintro e w' ⟨rfl, rfl⟩) | (go_at_call 56; (with_reducible refine HBO.out.mono ?_); (rintro e5 wb ⟨rfl, kb⟩); (have HBW : Hid (Below w.heap.size w wb) := Lib.hid (HBD.out.trans (kb.mono (by simp [sz_drew])))); (have hRb := (HC.out wb HBW.out).1); (have d0 : wb.cell? ⟨S, 0, none⟩ = some (.string t) := Own.cell hRb 0); (have d1 : wb.cell? ⟨S, 1, none⟩ = some (.int .i64 (a : Int)) := Own.cell hRb 1); (have d2 : wb.cell? ⟨S, 2, none⟩ = some (.int .i64 r) := Own.cell hRb 2); (have fb := fun i => Own.frozen hRb i); (have lb := Own.lt hRb); (have zb := HBW.out.size); clear hRb) | (go_at_call 57; (with_reducible refine (HWD.out _).mono ?_); rintro e w' ⟨rfl, rfl⟩) | (go_at_call 55; (with_reducible refine (HCO.out _ HBW.out).mono ?_)))
  rintro e6 w6 h6
  have h7 := h6.1
  subst h7
  go_wp2_with fail
  go_returns
  exact RPo.of (HBW.out.mono HAB.out) h6
set_option maxRecDepth 100000 in
set_option maxHeartbeats 8000000 in
theorem nx_wd2 (B S a : Nat) (t : ByteArray) (r b : Int) (v : Value) (l : List Sy) (w : World) (hS : Rc w S t (a : Int) r v 0 b) (hL : Sl w B v l) (hB : B ≤ S) (hl : t.size ≤ 100000) (hll : l.length ≤ 1000000) (ha : a < t.size) (hr : 0 ≤ r ∧ r ≤ 2) (hw : (bdF r t a).1 = ⟨#[80, 82]⟩) :
    Calls Tryz.prog 23 #[.pointer (some ⟨S, 0, none⟩)] w (RPo B S t w (rmR r t ⟨#[80, 82]⟩ (a : Int) (bdF r t a).2 (true || false) l)) := by
  have hlt := hS.lt
  have c0 := hS.c0
  have c1 := hS.c1
  have c2 := hS.c2
  have fS := fun i => Own.frozen hS i
  have HC : Hid (∀ W, Below w.heap.size w W → Rc W S t (a : Int) r v 0 b ∧ Sl W B v l) := Lib.hid (fun W hb => ⟨hS.kept hb, hS.sl hL hb⟩)
  have HBD : Hid (Below w.heap.size w w.drew) := Lib.hid (Below.refl _ w).drew
  have HAB : Hid (B ≤ w.heap.size) := Lib.hid (by omega)
  have hp := pk_bd t a
  have hpi := (pk_in ha).symm
  have hq := pk_bd t (a + 1)
  have HAT : Hid (∀ W, Below w.heap.size w W → Calls Tryz.prog 60 #[.pointer (some ⟨S, 0, none⟩), .int .i64 ((a : Int) + 1)] W fun e w' => e = .returned (.int .u8 (pk t (a + 1))) ∧ W = w') := Lib.hid (fun W hb => at_any t S (a + 1) W (hS.kept hb).c0 hl (by omega))
  have HBO := Lib.hid (rbold_any t S a r w.drew (hS.kept HBD.out).c0 (hS.kept HBD.out).c2 hr hl (by omega))
  have hbe := bd_end r t a ha
  have hne : (bdF r t a).1 ≠ ⟨#[]⟩ := by rw [hw]; decide
  have hup := bd_up hne
  have hv := wd_vals ha hne
  have hla : r = 0 → bSd (pk t ((bdF r t a).2 - 1)) = false := by
    intro h0
    have h5 : bdF 0 t a = (⟨#[80, 82]⟩, (bdF r t a).2) := by rw [← hw, h0]
    rw [ext_last (m := [80]) (c := 82) (bd_upper h5 (by decide)) hbe.2]
    decide
  have hco := fun (W : World) (hb : Below w.heap.size w W) => rrem_any B S a (bdF r t a).2 t ⟨#[80, 82]⟩ true false r b v l W (hS.kept hb) (hS.sl hL hb) hB hl (by have := hup; omega) hbe.2 hr (by decide) (by decide) (by rw [ByteArray.toList_eq]; decide) (by rw [ByteArray.toList_eq]; decide) hla
  obtain ⟨p, hpe⟩ : ∃ p, pk t a = p := ⟨_, rfl⟩
  have HP := Lib.hid hpe
  obtain ⟨q, hqe⟩ : ∃ q, pk t (a + 1) = q := ⟨_, rfl⟩
  have HQ := Lib.hid hqe
  rw [hpe] at hp hpi
  rw [hqe] at hq HAT
  obtain ⟨⟨x, z⟩, hx⟩ : ∃ b, bdF r t a = b := ⟨_, rfl⟩
  have HX := Lib.hid hx
  rw [hx] at HBO hbe
  simp only at HBO hbe
  have h1 := fun w => rb_bl p w hp.1 hp.2
  have h2 := fun w => rb_tx p w hp.1 hp.2
  have h3 := fun w => rb_di p w hp.1 hp.2
  have h4 := fun w => rb_di q w hq.1 hq.2
  have HLE : Hid (∀ W, Below w.heap.size w W → Calls Tryz.prog 62 #[.pointer (some ⟨S, 0, none⟩), .int .u8 p] W fun e w' => e = .returned (.bool (ltB r p)) ∧ W = w') := Lib.hid (fun W hb => letter_any S r p W (hS.kept hb).c2 hp.1 hp.2)
  rw [hpe] at hv
  rw [hx] at hw hup hco hla ⊢
  simp only at hw hup hco hla ⊢
  rw [show bBl p = false from decide_eq_false (by omega)] at h1
  rw [show bTx p = true from by unfold bTx; rw [show bPr p = true from decide_eq_true (by omega), Bool.true_or]] at h2
  have k35 : (p == 35) = false := by rw [beq_eq_false_iff_ne]; omega
  subst hw
  have hq0 : ((⟨#[80, 82]⟩ : ByteArray).toList == [67, 79]) = false := by rw [ByteArray.toList_eq]; decide
  have hq1 : ((⟨#[80, 82]⟩ : ByteArray).toList == [67, 79, 77, 77, 69, 78, 84]) = false := by rw [ByteArray.toList_eq]; decide
  have hq2 : ((⟨#[80, 82]⟩ : ByteArray).toList == [80, 82]) = true := by rw [ByteArray.toList_eq]; decide
  have hq3 : ((⟨#[80, 82]⟩ : ByteArray).toList == [80, 82, 65, 71, 77, 65, 84]) = false := by rw [ByteArray.toList_eq]; decide
  have HWD := Lib.hid (fun W => rword_any _ W _ _ _ _ hq0 hq1 hq2 hq3)
  clear hq0 hq1 hq2 hq3
  have hzz : (a : Int) < (z : Int) := by omega
  obtain ⟨RR, hRR⟩ : ∃ R : Rs, rmR r t ⟨#[80, 82]⟩ (a : Int) z (true || false) l = R := ⟨_, rfl⟩
  rw [hRR] at hco
  rw [hRR]
  have HCO := Lib.hid hco
  have HRR := Lib.hid hRR
  have H1 := Lib.hid h1
  have H2 := Lib.hid h2
  have H3 := Lib.hid h3
  have H4 := Lib.hid h4
  (try clear hx)
  clear hco h1 h2 h3 h4 hS hL hpe hqe hRR hr hla hv hup hne
  go_enter Tryz.func23, Tryz.ntmps23
  go_upto_region 0 with fail
  go_region
  go_wp2_with (first | (go_at_call 52; (with_reducible refine (H1.out _).mono ?_); rintro e w' ⟨rfl, rfl⟩) | (go_at_call 53; (with_reducible refine (H2.out _).mono ?_); rintro e w' ⟨rfl, rfl⟩) | (go_at_call 56; (with_reducible refine HBO.out.mono ?_); (rintro e5 wb ⟨rfl, kb⟩); (have HBW : Hid (Below w.heap.size w wb) := Lib.hid (HBD.out.trans (kb.mono (by simp [sz_drew])))); (have hRb := (HC.out wb HBW.out).1); (have d0 : wb.cell? ⟨S, 0, none⟩ = some (.string t) := Own.cell hRb 0); (have d1 : wb.cell? ⟨S, 1, none⟩ = some (.int .i64 (a : Int)) := Own.cell hRb 1); (have d2 : wb.cell? ⟨S, 2, none⟩ = some (.int .i64 r) := Own.cell hRb 2); (have fb := fun i => Own.frozen hRb i); (have lb := Own.lt hRb); (have zb := HBW.out.size); clear hRb) | (go_at_call 57; (with_reducible refine (HWD.out _).mono ?_); rintro e w' ⟨rfl, rfl⟩) | (go_at_call 55; (with_reducible refine (HCO.out _ HBW.out).mono ?_)))
  rintro e6 w6 h6
  have h7 := h6.1
  subst h7
  go_wp2_with fail
  go_returns
  exact RPo.of (HBW.out.mono HAB.out) h6
set_option maxRecDepth 100000 in
set_option maxHeartbeats 8000000 in
theorem nx_wd3 (B S a : Nat) (t : ByteArray) (r b : Int) (v : Value) (l : List Sy) (w : World) (hS : Rc w S t (a : Int) r v 0 b) (hL : Sl w B v l) (hB : B ≤ S) (hl : t.size ≤ 100000) (hll : l.length ≤ 1000000) (ha : a < t.size) (hr : 0 ≤ r ∧ r ≤ 2) (hw : (bdF r t a).1 = ⟨#[80, 82, 65, 71, 77, 65, 84]⟩) :
    Calls Tryz.prog 23 #[.pointer (some ⟨S, 0, none⟩)] w (RPo B S t w (rmR r t ⟨#[80, 82, 65, 71, 77, 65, 84]⟩ (a : Int) (bdF r t a).2 (false || true) l)) := by
  have hlt := hS.lt
  have c0 := hS.c0
  have c1 := hS.c1
  have c2 := hS.c2
  have fS := fun i => Own.frozen hS i
  have HC : Hid (∀ W, Below w.heap.size w W → Rc W S t (a : Int) r v 0 b ∧ Sl W B v l) := Lib.hid (fun W hb => ⟨hS.kept hb, hS.sl hL hb⟩)
  have HBD : Hid (Below w.heap.size w w.drew) := Lib.hid (Below.refl _ w).drew
  have HAB : Hid (B ≤ w.heap.size) := Lib.hid (by omega)
  have hp := pk_bd t a
  have hpi := (pk_in ha).symm
  have hq := pk_bd t (a + 1)
  have HAT : Hid (∀ W, Below w.heap.size w W → Calls Tryz.prog 60 #[.pointer (some ⟨S, 0, none⟩), .int .i64 ((a : Int) + 1)] W fun e w' => e = .returned (.int .u8 (pk t (a + 1))) ∧ W = w') := Lib.hid (fun W hb => at_any t S (a + 1) W (hS.kept hb).c0 hl (by omega))
  have HBO := Lib.hid (rbold_any t S a r w.drew (hS.kept HBD.out).c0 (hS.kept HBD.out).c2 hr hl (by omega))
  have hbe := bd_end r t a ha
  have hne : (bdF r t a).1 ≠ ⟨#[]⟩ := by rw [hw]; decide
  have hup := bd_up hne
  have hv := wd_vals ha hne
  have hla : r = 0 → bSd (pk t ((bdF r t a).2 - 1)) = false := by
    intro h0
    have h5 : bdF 0 t a = (⟨#[80, 82, 65, 71, 77, 65, 84]⟩, (bdF r t a).2) := by rw [← hw, h0]
    rw [ext_last (m := [80, 82, 65, 71, 77, 65]) (c := 84) (bd_upper h5 (by decide)) hbe.2]
    decide
  have hco := fun (W : World) (hb : Below w.heap.size w W) => rrem_any B S a (bdF r t a).2 t ⟨#[80, 82, 65, 71, 77, 65, 84]⟩ false true r b v l W (hS.kept hb) (hS.sl hL hb) hB hl (by have := hup; omega) hbe.2 hr (by decide) (by decide) (by rw [ByteArray.toList_eq]; decide) (by rw [ByteArray.toList_eq]; decide) hla
  obtain ⟨p, hpe⟩ : ∃ p, pk t a = p := ⟨_, rfl⟩
  have HP := Lib.hid hpe
  obtain ⟨q, hqe⟩ : ∃ q, pk t (a + 1) = q := ⟨_, rfl⟩
  have HQ := Lib.hid hqe
  rw [hpe] at hp hpi
  rw [hqe] at hq HAT
  obtain ⟨⟨x, z⟩, hx⟩ : ∃ b, bdF r t a = b := ⟨_, rfl⟩
  have HX := Lib.hid hx
  rw [hx] at HBO hbe
  simp only at HBO hbe
  have h1 := fun w => rb_bl p w hp.1 hp.2
  have h2 := fun w => rb_tx p w hp.1 hp.2
  have h3 := fun w => rb_di p w hp.1 hp.2
  have h4 := fun w => rb_di q w hq.1 hq.2
  have HLE : Hid (∀ W, Below w.heap.size w W → Calls Tryz.prog 62 #[.pointer (some ⟨S, 0, none⟩), .int .u8 p] W fun e w' => e = .returned (.bool (ltB r p)) ∧ W = w') := Lib.hid (fun W hb => letter_any S r p W (hS.kept hb).c2 hp.1 hp.2)
  rw [hpe] at hv
  rw [hx] at hw hup hco hla ⊢
  simp only at hw hup hco hla ⊢
  rw [show bBl p = false from decide_eq_false (by omega)] at h1
  rw [show bTx p = true from by unfold bTx; rw [show bPr p = true from decide_eq_true (by omega), Bool.true_or]] at h2
  have k35 : (p == 35) = false := by rw [beq_eq_false_iff_ne]; omega
  subst hw
  have hq0 : ((⟨#[80, 82, 65, 71, 77, 65, 84]⟩ : ByteArray).toList == [67, 79]) = false := by rw [ByteArray.toList_eq]; decide
  have hq1 : ((⟨#[80, 82, 65, 71, 77, 65, 84]⟩ : ByteArray).toList == [67, 79, 77, 77, 69, 78, 84]) = false := by rw [ByteArray.toList_eq]; decide
  have hq2 : ((⟨#[80, 82, 65, 71, 77, 65, 84]⟩ : ByteArray).toList == [80, 82]) = false := by rw [ByteArray.toList_eq]; decide
  have hq3 : ((⟨#[80, 82, 65, 71, 77, 65, 84]⟩ : ByteArray).toList == [80, 82, 65, 71, 77, 65, 84]) = true := by rw [ByteArray.toList_eq]; decide
  have HWD := Lib.hid (fun W => rword_any _ W _ _ _ _ hq0 hq1 hq2 hq3)
  clear hq0 hq1 hq2 hq3
  have hzz : (a : Int) < (z : Int) := by omega
  obtain ⟨RR, hRR⟩ : ∃ R : Rs, rmR r t ⟨#[80, 82, 65, 71, 77, 65, 84]⟩ (a : Int) z (false || true) l = R := ⟨_, rfl⟩
  rw [hRR] at hco
  rw [hRR]
  have HCO := Lib.hid hco
  have HRR := Lib.hid hRR
  have H1 := Lib.hid h1
  have H2 := Lib.hid h2
  have H3 := Lib.hid h3
  have H4 := Lib.hid h4
  (try clear hx)
  clear hco h1 h2 h3 h4 hS hL hpe hqe hRR hr hla hv hup hne
  go_enter Tryz.func23, Tryz.ntmps23
  go_upto_region 0 with fail
  go_region
  go_wp2_with (first | (go_at_call 52; (with_reducible refine (H1.out _).mono ?_); rintro e w' ⟨rfl, rfl⟩) | (go_at_call 53; (with_reducible refine (H2.out _).mono ?_); rintro e w' ⟨rfl, rfl⟩) | (go_at_call 56; (with_reducible refine HBO.out.mono ?_); (rintro e5 wb ⟨rfl, kb⟩); (have HBW : Hid (Below w.heap.size w wb) := Lib.hid (HBD.out.trans (kb.mono (by simp [sz_drew])))); (have hRb := (HC.out wb HBW.out).1); (have d0 : wb.cell? ⟨S, 0, none⟩ = some (.string t) := Own.cell hRb 0); (have d1 : wb.cell? ⟨S, 1, none⟩ = some (.int .i64 (a : Int)) := Own.cell hRb 1); (have d2 : wb.cell? ⟨S, 2, none⟩ = some (.int .i64 r) := Own.cell hRb 2); (have fb := fun i => Own.frozen hRb i); (have lb := Own.lt hRb); (have zb := HBW.out.size); clear hRb) | (go_at_call 57; (with_reducible refine (HWD.out _).mono ?_); rintro e w' ⟨rfl, rfl⟩) | (go_at_call 55; (with_reducible refine (HCO.out _ HBW.out).mono ?_)))
  rintro e6 w6 h6
  have h7 := h6.1
  subst h7
  go_wp2_with fail
  go_returns
  exact RPo.of (HBW.out.mono HAB.out) h6
set_option maxRecDepth 100000 in
set_option maxHeartbeats 8000000 in
theorem nx_sh0 (B S a : Nat) (t : ByteArray) (r b : Int) (v : Value) (l : List Sy) (w : World) (hS : Rc w S t (a : Int) r v 0 b) (hL : Sl w B v l) (hB : B ≤ S) (hl : t.size ≤ 100000) (hll : l.length ≤ 1000000) (ha : a < t.size) (hr : 0 ≤ r ∧ r ≤ 2) (hw : (bdF r t a).1 ≠ ⟨#[]⟩) (n0 : (bdF r t a).1 ≠ ⟨#[67, 79]⟩) (n1 : (bdF r t a).1 ≠ ⟨#[67, 79, 77, 77, 69, 78, 84]⟩) (n2 : (bdF r t a).1 ≠ ⟨#[80, 82]⟩) (n3 : (bdF r t a).1 ≠ ⟨#[80, 82, 65, 71, 77, 65, 84]⟩) (hz : ¬ 40 < (bdF r t a).1.size) :
    Calls Tryz.prog 23 #[.pointer (some ⟨S, 0, none⟩)] w (RPo B S t w (shR r (a : Int) ((bdF r t a).2 : Int) 1 (bdF r t a).1 l)) := by
  have hlt := hS.lt
  have c0 := hS.c0
  have c1 := hS.c1
  have c2 := hS.c2
  have fS := fun i => Own.frozen hS i
  have HC : Hid (∀ W, Below w.heap.size w W → Rc W S t (a : Int) r v 0 b ∧ Sl W B v l) := Lib.hid (fun W hb => ⟨hS.kept hb, hS.sl hL hb⟩)
  have HBD : Hid (Below w.heap.size w w.drew) := Lib.hid (Below.refl _ w).drew
  have HAB : Hid (B ≤ w.heap.size) := Lib.hid (by omega)
  have hp := pk_bd t a
  have hpi := (pk_in ha).symm
  have hq := pk_bd t (a + 1)
  have HAT : Hid (∀ W, Below w.heap.size w W → Calls Tryz.prog 60 #[.pointer (some ⟨S, 0, none⟩), .int .i64 ((a : Int) + 1)] W fun e w' => e = .returned (.int .u8 (pk t (a + 1))) ∧ W = w') := Lib.hid (fun W hb => at_any t S (a + 1) W (hS.kept hb).c0 hl (by omega))
  have HBO := Lib.hid (rbold_any t S a r w.drew (hS.kept HBD.out).c0 (hS.kept HBD.out).c2 hr hl (by omega))
  have hbe := bd_end r t a ha
  have hup := bd_up hw
  have hv := wd_vals ha hw
  have hxs := bd_size r t a
  obtain ⟨p, hpe⟩ : ∃ p, pk t a = p := ⟨_, rfl⟩
  have HP := Lib.hid hpe
  obtain ⟨q, hqe⟩ : ∃ q, pk t (a + 1) = q := ⟨_, rfl⟩
  have HQ := Lib.hid hqe
  rw [hpe] at hp hpi
  rw [hqe] at hq HAT
  obtain ⟨⟨x, z⟩, hx⟩ : ∃ b, bdF r t a = b := ⟨_, rfl⟩
  have HX := Lib.hid hx
  rw [hx] at HBO hbe
  simp only at HBO hbe
  have h1 := fun w => rb_bl p w hp.1 hp.2
  have h2 := fun w => rb_tx p w hp.1 hp.2
  have h3 := fun w => rb_di p w hp.1 hp.2
  have h4 := fun w => rb_di q w hq.1 hq.2
  have HLE : Hid (∀ W, Below w.heap.size w W → Calls Tryz.prog 62 #[.pointer (some ⟨S, 0, none⟩), .int .u8 p] W fun e w' => e = .returned (.bool (ltB r p)) ∧ W = w') := Lib.hid (fun W hb => letter_any S r p W (hS.kept hb).c2 hp.1 hp.2)
  rw [hpe] at hv
  rw [hx] at hup hxs hz n0 n1 n2 n3 ⊢
  simp only at hup hxs hz n0 n1 n2 n3 ⊢
  rw [show bBl p = false from decide_eq_false (by omega)] at h1
  rw [show bTx p = true from by unfold bTx; rw [show bPr p = true from decide_eq_true (by omega), Bool.true_or]] at h2
  have k35 : (p == 35) = false := by rw [beq_eq_false_iff_ne]; omega
  have hq0 : (x.toList == [67, 79]) = false := toL_ne (c := [67, 79]) n0
  have hq1 : (x.toList == [67, 79, 77, 77, 69, 78, 84]) = false := toL_ne (c := [67, 79, 77, 77, 69, 78, 84]) n1
  have hq2 : (x.toList == [80, 82]) = false := toL_ne (c := [80, 82]) n2
  have hq3 : (x.toList == [80, 82, 65, 71, 77, 65, 84]) = false := toL_ne (c := [80, 82, 65, 71, 77, 65, 84]) n3
  have HWD := Lib.hid (fun W => rword_any x W _ _ _ _ hq0 hq1 hq2 hq3)
  have hzz : (a : Int) < (z : Int) := by omega
  have hzb : decide ((x.size : Int) > 40) = false := decide_eq_false (by omega)
  have HKS := Lib.hid (fun (W : World) (hb : Below w.heap.size w W) => hS.kept hb)
  have HKL := Lib.hid (fun (W : World) (hb : Below w.heap.size w W) => hS.sl hL hb)
  have HZH := Lib.hid hz
  obtain ⟨RR, hRR⟩ : ∃ R : Rs, shR r (a : Int) (z : Int) 1 x l = R := ⟨_, rfl⟩
  rw [hRR]
  have HRR := Lib.hid hRR
  have H1 := Lib.hid h1
  have H2 := Lib.hid h2
  have H3 := Lib.hid h3
  have H4 := Lib.hid h4
  (try clear hx)
  clear h1 h2 h3 h4 hS hL hpe hqe hRR hr hw n0 n1 n2 n3 hv hup hz
  go_enter Tryz.func23, Tryz.ntmps23
  go_upto_region 0 with fail
  go_region
  go_wp2_with (first | (go_at_call 52; (with_reducible refine (H1.out _).mono ?_); rintro e w' ⟨rfl, rfl⟩) | (go_at_call 53; (with_reducible refine (H2.out _).mono ?_); rintro e w' ⟨rfl, rfl⟩) | (go_at_call 56; (with_reducible refine HBO.out.mono ?_); (rintro e5 wb ⟨rfl, kb⟩); (have HBW : Hid (Below w.heap.size w wb) := Lib.hid (HBD.out.trans (kb.mono (by simp [sz_drew])))); (have hRb := (HC.out wb HBW.out).1); (have d0 : wb.cell? ⟨S, 0, none⟩ = some (.string t) := Own.cell hRb 0); (have d1 : wb.cell? ⟨S, 1, none⟩ = some (.int .i64 (a : Int)) := Own.cell hRb 1); (have d2 : wb.cell? ⟨S, 2, none⟩ = some (.int .i64 r) := Own.cell hRb 2); (have fb := fun i => Own.frozen hRb i); (have lb := Own.lt hRb); (have zb := HBW.out.size); clear hRb) | (go_at_call 57; (with_reducible refine (HWD.out _).mono ?_); rintro e w' ⟨rfl, rfl⟩) | (go_at_call 58; (with_reducible refine (radd_any B S t (a : Int) r v 0 b 1 (a : Int) (z : Int) x l wb (HKS.out wb HBW.out) (HKL.out wb HBW.out) hB hll).mono ?_); (rintro e6 w6 ⟨rfl, ⟨v6, hS6, hL6⟩, hb6, _⟩)))
  go_returns
  have hRe : RR = ⟨r, (z : Int), l ++ [(1, x, (a : Int))], 0, 0⟩ := by rw [← HRR.out]; exact if_neg HZH.out
  rw [hRe]
  exact ⟨rfl, ⟨_, _, _, _, v6, _, hS6, hL6, (fun _ => ⟨rfl, rfl, rfl, rfl⟩), (fun h => absurd rfl h)⟩, (HBW.out.mono HAB.out).trans hb6⟩
set_option maxRecDepth 100000 in
set_option maxHeartbeats 8000000 in
theorem nx_sh1 (B S a : Nat) (t : ByteArray) (r b : Int) (v : Value) (l : List Sy) (w : World) (hS : Rc w S t (a : Int) r v 0 b) (hL : Sl w B v l) (hB : B ≤ S) (hl : t.size ≤ 100000) (hll : l.length ≤ 1000000) (ha : a < t.size) (hr : 0 ≤ r ∧ r ≤ 2) (hw : (bdF r t a).1 ≠ ⟨#[]⟩) (n0 : (bdF r t a).1 ≠ ⟨#[67, 79]⟩) (n1 : (bdF r t a).1 ≠ ⟨#[67, 79, 77, 77, 69, 78, 84]⟩) (n2 : (bdF r t a).1 ≠ ⟨#[80, 82]⟩) (n3 : (bdF r t a).1 ≠ ⟨#[80, 82, 65, 71, 77, 65, 84]⟩) (hz : 40 < (bdF r t a).1.size) :
    Calls Tryz.prog 23 #[.pointer (some ⟨S, 0, none⟩)] w (RPo B S t w (shR r (a : Int) ((bdF r t a).2 : Int) 1 (bdF r t a).1 l)) := by
  have hlt := hS.lt
  have c0 := hS.c0
  have c1 := hS.c1
  have c2 := hS.c2
  have fS := fun i => Own.frozen hS i
  have HC : Hid (∀ W, Below w.heap.size w W → Rc W S t (a : Int) r v 0 b ∧ Sl W B v l) := Lib.hid (fun W hb => ⟨hS.kept hb, hS.sl hL hb⟩)
  have HBD : Hid (Below w.heap.size w w.drew) := Lib.hid (Below.refl _ w).drew
  have HAB : Hid (B ≤ w.heap.size) := Lib.hid (by omega)
  have hp := pk_bd t a
  have hpi := (pk_in ha).symm
  have hq := pk_bd t (a + 1)
  have HAT : Hid (∀ W, Below w.heap.size w W → Calls Tryz.prog 60 #[.pointer (some ⟨S, 0, none⟩), .int .i64 ((a : Int) + 1)] W fun e w' => e = .returned (.int .u8 (pk t (a + 1))) ∧ W = w') := Lib.hid (fun W hb => at_any t S (a + 1) W (hS.kept hb).c0 hl (by omega))
  have HBO := Lib.hid (rbold_any t S a r w.drew (hS.kept HBD.out).c0 (hS.kept HBD.out).c2 hr hl (by omega))
  have hbe := bd_end r t a ha
  have hup := bd_up hw
  have hv := wd_vals ha hw
  have hxs := bd_size r t a
  obtain ⟨p, hpe⟩ : ∃ p, pk t a = p := ⟨_, rfl⟩
  have HP := Lib.hid hpe
  obtain ⟨q, hqe⟩ : ∃ q, pk t (a + 1) = q := ⟨_, rfl⟩
  have HQ := Lib.hid hqe
  rw [hpe] at hp hpi
  rw [hqe] at hq HAT
  obtain ⟨⟨x, z⟩, hx⟩ : ∃ b, bdF r t a = b := ⟨_, rfl⟩
  have HX := Lib.hid hx
  rw [hx] at HBO hbe
  simp only at HBO hbe
  have h1 := fun w => rb_bl p w hp.1 hp.2
  have h2 := fun w => rb_tx p w hp.1 hp.2
  have h3 := fun w => rb_di p w hp.1 hp.2
  have h4 := fun w => rb_di q w hq.1 hq.2
  have HLE : Hid (∀ W, Below w.heap.size w W → Calls Tryz.prog 62 #[.pointer (some ⟨S, 0, none⟩), .int .u8 p] W fun e w' => e = .returned (.bool (ltB r p)) ∧ W = w') := Lib.hid (fun W hb => letter_any S r p W (hS.kept hb).c2 hp.1 hp.2)
  rw [hpe] at hv
  rw [hx] at hup hxs hz n0 n1 n2 n3 ⊢
  simp only at hup hxs hz n0 n1 n2 n3 ⊢
  rw [show bBl p = false from decide_eq_false (by omega)] at h1
  rw [show bTx p = true from by unfold bTx; rw [show bPr p = true from decide_eq_true (by omega), Bool.true_or]] at h2
  have k35 : (p == 35) = false := by rw [beq_eq_false_iff_ne]; omega
  have hq0 : (x.toList == [67, 79]) = false := toL_ne (c := [67, 79]) n0
  have hq1 : (x.toList == [67, 79, 77, 77, 69, 78, 84]) = false := toL_ne (c := [67, 79, 77, 77, 69, 78, 84]) n1
  have hq2 : (x.toList == [80, 82]) = false := toL_ne (c := [80, 82]) n2
  have hq3 : (x.toList == [80, 82, 65, 71, 77, 65, 84]) = false := toL_ne (c := [80, 82, 65, 71, 77, 65, 84]) n3
  have HWD := Lib.hid (fun W => rword_any x W _ _ _ _ hq0 hq1 hq2 hq3)
  have hzz : (a : Int) < (z : Int) := by omega
  have hzb : decide ((x.size : Int) > 40) = true := decide_eq_true (by omega)
  have HKS := Lib.hid (fun (W : World) (hb : Below w.heap.size w W) => hS.kept hb)
  have HKL := Lib.hid (fun (W : World) (hb : Below w.heap.size w W) => hS.sl hL hb)
  have HZH := Lib.hid hz
  obtain ⟨RR, hRR⟩ : ∃ R : Rs, shR r (a : Int) (z : Int) 1 x l = R := ⟨_, rfl⟩
  rw [hRR]
  have HRR := Lib.hid hRR
  have H1 := Lib.hid h1
  have H2 := Lib.hid h2
  have H3 := Lib.hid h3
  have H4 := Lib.hid h4
  (try clear hx)
  clear h1 h2 h3 h4 hS hL hpe hqe hRR hr hw n0 n1 n2 n3 hv hup hz
  go_enter Tryz.func23, Tryz.ntmps23
  go_upto_region 0 with fail
  go_region
  go_wp2_with (first | (go_at_call 52; (with_reducible refine (H1.out _).mono ?_); rintro e w' ⟨rfl, rfl⟩) | (go_at_call 53; (with_reducible refine (H2.out _).mono ?_); rintro e w' ⟨rfl, rfl⟩) | (go_at_call 56; (with_reducible refine HBO.out.mono ?_); (rintro e5 wb ⟨rfl, kb⟩); (have HBW : Hid (Below w.heap.size w wb) := Lib.hid (HBD.out.trans (kb.mono (by simp [sz_drew])))); (have hRb := (HC.out wb HBW.out).1); (have d0 : wb.cell? ⟨S, 0, none⟩ = some (.string t) := Own.cell hRb 0); (have d1 : wb.cell? ⟨S, 1, none⟩ = some (.int .i64 (a : Int)) := Own.cell hRb 1); (have d2 : wb.cell? ⟨S, 2, none⟩ = some (.int .i64 r) := Own.cell hRb 2); (have fb := fun i => Own.frozen hRb i); (have lb := Own.lt hRb); (have zb := HBW.out.size); clear hRb) | (go_at_call 57; (with_reducible refine (HWD.out _).mono ?_); rintro e w' ⟨rfl, rfl⟩) | (go_at_call 54; (with_reducible refine (fail_new S t (a : Int) r v b 3 (a : Int) wb (HKS.out wb HBW.out)).mono ?_); (rintro e5 w5 ⟨rfl, hS5, hg5⟩); (have HADD := Lib.hid (radd_any B S t (a : Int) r v 3 (a : Int) 1 (a : Int) (z : Int) x l w5 hS5 ((HKS.out wb HBW.out).slgb (HKL.out wb HBW.out) hg5) hB hll)); (have s1 : w5.cell? ⟨S, 1, none⟩ = some (.int .i64 (a : Int)) := Own.cell hS5 1); (have s5 := Own.lt hS5)) | (go_at_call 58; (with_reducible refine HADD.out.mono ?_); (rintro e6 w6 ⟨rfl, ⟨v6, hS6, hL6⟩, hb6, _⟩)))
  go_returns
  have hRe : RR = ⟨r, (a : Int), l, (a : Int), 3⟩ := by rw [← HRR.out]; exact if_pos HZH.out
  rw [hRe]
  exact ⟨rfl, ⟨_, _, _, _, v6, _, hS6, hL6, (fun h => absurd h (show ¬ ((3 : Int) = 0) by decide)), (fun _ => ⟨rfl, rfl⟩)⟩, ((HBW.out.mono HAB.out).trans (hg5.below hB (by have := HAB.out; omega))).trans hb6⟩
set_option maxRecDepth 100000 in
set_option maxHeartbeats 8000000 in
theorem nx_sgn (B S a : Nat) (t : ByteArray) (r b : Int) (v : Value) (l : List Sy) (w : World) (hS : Rc w S t (a : Int) r v 0 b) (hL : Sl w B v l) (hB : B ≤ S) (hl : t.size ≤ 100000) (hll : l.length ≤ 1000000) (ha : a < t.size) (hr : 0 ≤ r ∧ r ≤ 2) (hbd : bdF r t a = (⟨#[]⟩, a)) (hw : bBl (pk t a) = false) (hw2 : bTx (pk t a) = true) (n35 : pk t a ≠ 35) (n34 : pk t a ≠ 34) (n36 : pk t a ≠ 36) (hd : bDi (pk t a) = false) (hlt2 : ltB r (pk t a) = false) (n46 : pk t a ≠ 46) :
    Calls Tryz.prog 23 #[.pointer (some ⟨S, 0, none⟩)] w (RPo B S t w (snR r t a l)) := by
  have hlt := hS.lt
  have c0 := hS.c0
  have c1 := hS.c1
  have c2 := hS.c2
  have fS := fun i => Own.frozen hS i
  have HC : Hid (∀ W, Below w.heap.size w W → Rc W S t (a : Int) r v 0 b ∧ Sl W B v l) := Lib.hid (fun W hb => ⟨hS.kept hb, hS.sl hL hb⟩)
  have HBD : Hid (Below w.heap.size w w.drew) := Lib.hid (Below.refl _ w).drew
  have HAB : Hid (B ≤ w.heap.size) := Lib.hid (by omega)
  have hp := pk_bd t a
  have hpi := (pk_in ha).symm
  have hq := pk_bd t (a + 1)
  have HAT : Hid (∀ W, Below w.heap.size w W → Calls Tryz.prog 60 #[.pointer (some ⟨S, 0, none⟩), .int .i64 ((a : Int) + 1)] W fun e w' => e = .returned (.int .u8 (pk t (a + 1))) ∧ W = w') := Lib.hid (fun W hb => at_any t S (a + 1) W (hS.kept hb).c0 hl (by omega))
  have HBO := Lib.hid (rbold_any t S a r w.drew (hS.kept HBD.out).c0 (hS.kept HBD.out).c2 hr hl (by omega))
  have hbe := bd_end r t a ha
  have HF0 := Lib.hid (fr_eq (t.data.toList.drop a))
  have HPR := Lib.hid (fun (s : List UInt8) (h : a + s.length ≤ t.size) => pre_ext (t := t) (a := a) h)
  have HPF := Lib.hid (fun (s : List UInt8) (h : t.size < a + s.length) => pre_far (t := t) (a := a) h (by omega))
  have HFA := Lib.hid (fun (W : World) (hb : Below w.heap.size w W) => fail_new S t (a : Int) r v b 9 (a : Int) W (hS.kept hb))
  have HADD := Lib.hid (fun (W : World) (hb : Below w.heap.size w W) (y : ByteArray) (z : Int) => radd_any B S t (a : Int) r v 0 b 8 (a : Int) z y l W (hS.kept hb) (hS.sl hL hb) hB hll)
  have HTX : Hid (bTx (pk t a) = true) := Lib.hid hw2
  obtain ⟨p, hpe⟩ : ∃ p, pk t a = p := ⟨_, rfl⟩
  have HP := Lib.hid hpe
  obtain ⟨q, hqe⟩ : ∃ q, pk t (a + 1) = q := ⟨_, rfl⟩
  have HQ := Lib.hid hqe
  rw [hpe] at hp hpi
  rw [hqe] at hq HAT
  obtain ⟨⟨x, z⟩, hx⟩ : ∃ b, bdF r t a = b := ⟨_, rfl⟩
  have HX := Lib.hid hx
  rw [hx] at HBO hbe
  simp only at HBO hbe
  have h1 := fun w => rb_bl p w hp.1 hp.2
  have h2 := fun w => rb_tx p w hp.1 hp.2
  have h3 := fun w => rb_di p w hp.1 hp.2
  have h4 := fun w => rb_di q w hq.1 hq.2
  have HLE : Hid (∀ W, Below w.heap.size w W → Calls Tryz.prog 62 #[.pointer (some ⟨S, 0, none⟩), .int .u8 p] W fun e w' => e = .returned (.bool (ltB r p)) ∧ W = w') := Lib.hid (fun W hb => letter_any S r p W (hS.kept hb).c2 hp.1 hp.2)
  rw [hpe] at hw hw2 n35 n34 n36 hd hlt2 n46
  rw [hlt2] at HLE
  rw [show bBl p = false from hw] at h1
  rw [show bTx p = true from hw2] at h2
  rw [show bDi p = false from hd] at h3
  rw [hbd] at hx
  cases hx
  have k35 : (p == 35) = false := by rw [beq_eq_false_iff_ne]; exact n35
  have k34 : (p == 34) = false := by rw [beq_eq_false_iff_ne]; exact n34
  have k36 : (p == 36) = false := by rw [beq_eq_false_iff_ne]; exact n36
  have k46 : (p == 46) = false := by rw [beq_eq_false_iff_ne]; exact n46
  clear n46
  clear n35 n34 n36 hd hlt2 hw hw2
  obtain ⟨RR, hRR⟩ : ∃ R : Rs, snR r t a l = R := ⟨_, rfl⟩
  rw [hRR]
  have HRR := Lib.hid hRR
  have H1 := Lib.hid h1
  have H2 := Lib.hid h2
  have H3 := Lib.hid h3
  have H4 := Lib.hid h4
  (try clear hx)
  clear h1 h2 h3 h4 hS hL hpe hqe hRR hr hbd
  go_enter Tryz.func23, Tryz.ntmps23
  go_upto_region 0 with fail
  go_region
  go_wp2_with (first | (go_at_call 52; (with_reducible refine (H1.out _).mono ?_); rintro e w' ⟨rfl, rfl⟩) | (go_at_call 53; (with_reducible refine (H2.out _).mono ?_); rintro e w' ⟨rfl, rfl⟩) | (go_at_call 56; (with_reducible refine HBO.out.mono ?_); (rintro e5 wb ⟨rfl, kb⟩); (have HBW : Hid (Below w.heap.size w wb) := Lib.hid (HBD.out.trans (kb.mono (by simp [sz_drew])))); (have hRb := (HC.out wb HBW.out).1); (have d0 : wb.cell? ⟨S, 0, none⟩ = some (.string t) := Own.cell hRb 0); (have d1 : wb.cell? ⟨S, 1, none⟩ = some (.int .i64 (a : Int)) := Own.cell hRb 1); (have d2 : wb.cell? ⟨S, 2, none⟩ = some (.int .i64 r) := Own.cell hRb 2); (have fb := fun i => Own.frozen hRb i); (have lb := Own.lt hRb); (have zb := HBW.out.size); clear hRb) | (go_at_call 59; (with_reducible refine (H3.out _).mono ?_); rintro e w' ⟨rfl, rfl⟩) | (go_at_call 62; (with_reducible refine (HLE.out _ HBW.out).mono ?_); rintro e w' ⟨rfl, rfl⟩) | (go_at_call 66; (with_reducible refine (rsigns_any wb).mono ?_); (rintro e7 w7 ⟨rfl, hw7⟩); (have HB7 : Hid (Below w.heap.size w w7) := Lib.hid (by rw [hw7]; exact HBW.out.alloc zb _)); (have HG7 : Hid (∀ i : Nat, i < 38 → w7.cell? ⟨wb.heap.size, i, none⟩ = some (.string ⟨(sgR.getD i []).toArray⟩)) := Lib.hid (fun i hi => by rw [hw7]; exact ((Own.new wb 9 rsgV).cell i).trans (rsgV_at i hi))); (have hz7 : wb.heap.size < w7.heap.size := by rw [hw7]; simp); clear hw7))
  go_loopw [6] (fun v6 wr => ∃ i : Nat, i ≤ 38 ∧ fdR (t.data.toList.drop a) i = fdR (t.data.toList.drop a) 0 ∧ v6 = .int .i64 i ∧ Below w7.heap.size w7 wr) (fun v6 _ => 38 - (intOf v6).toNat)
  case atStart => exact ⟨0, Nat.zero_le _, rfl, rfl, Below.refl _ w7⟩
  case round =>
    obtain ⟨i, hi, hf, rfl, hb8⟩ := hrel
    have HF := Lib.hid hf
    have hb9 := HB7.out.trans (hb8.mono HB7.out.size)
    have hRr := (HC.out wr hb9).1
    have d0 : wr.cell? ⟨S, 0, none⟩ = some (.string t) := Own.cell hRr 0
    have d1 : wr.cell? ⟨S, 1, none⟩ = some (.int .i64 (a : Int)) := Own.cell hRr 1
    have f8 := fun i => Own.frozen hRr i
    have l8 := Own.lt hRr
    have z8 := hb8.size
    have HB8 := Lib.hid hb8
    have HB9 := Lib.hid hb9
    clear hf hb8 hb9 hRr
    by_cases h38 : i < 38
    · have hcell : wr.cell? ⟨wb.heap.size, i, none⟩ = some (.string ⟨(sgR.getD i []).toArray⟩) := (HB8.out.cell (p := ⟨wb.heap.size, i, none⟩) hz7).trans (HG7.out i h38)
      have hsl := sr_len i h38
      have hfy := fr_yes (d := t.data.toList.drop a) h38
      have hfn := fr_no (d := t.data.toList.drop a) h38
      obtain ⟨s, hs⟩ : ∃ s, sgR.getD i [] = s := ⟨_, rfl⟩
      rw [hs] at hcell hsl hfy hfn
      have hpr := HPR.out s
      have hpf := HPF.out s
      obtain ⟨y, hy⟩ : ∃ y, (⟨s.toArray⟩ : ByteArray) = y := ⟨_, rfl⟩
      have hys : y.size = s.length := by rw [← hy]; exact List.size_toArray
      rw [hy] at hcell hpr
      rw [← hys] at hpr hpf hsl
      have q1 : IntKind.i64.wrap ((a : Int) + (y.size : Int)) = (a : Int) + (y.size : Int) := IntWalk.i64_in _ (by omega)
      have HY := Lib.hid hy
      have HYS := Lib.hid hys
      clear hs hy hys
      by_cases hle : a + y.size ≤ t.size
      · have hp2 := hpr hle
        have hleb : decide ((a : Int) + (y.size : Int) ≤ (t.size : Int)) = true := decide_eq_true (by omega)
        cases hpx : Lib.hasPrefix (t.data.toList.drop a) s
        · rw [hpx] at hp2
          have HN := Lib.hid (show fdR (t.data.toList.drop a) (i + 1) = fdR (t.data.toList.drop a) 0 by rw [← HF.out]; exact (hfn hpx).symm)
          clear hpr hpf hfy hfn hpx
          go_upto_region 27 with fail
          go_region
          go_wp2_with fail
          go_roundw
          case rel => exact ⟨i + 1, by omega, HN.out, by go_num, HB8.out.drew⟩
          case measure => simp [intOf]; omega
        · rw [hpx] at hp2
          have hsn : snR r t a l = ⟨r, (a : Int) + (y.size : Int), l ++ [(8, y, (a : Int))], 0, 0⟩ := by
            unfold snR
            rw [← HF0.out, ← HF.out, hfy hpx]
            simp only
            rw [HY.out, HYS.out]
          have hRe : RR = ⟨r, (a : Int) + (y.size : Int), l ++ [(8, y, (a : Int))], 0, 0⟩ := by rw [← HRR.out]; exact hsn
          have HRE := Lib.hid hRe
          have HBT : Hid (Below w.heap.size w wr.drew.drew) := Lib.hid HB9.out.drew.drew
          clear hpr hpf hfy hfn hpx hsn hRe
          go_upto_region 27 with fail
          go_region
          go_upto_region 28 with fail
          go_region_with (go_at_call 58; (with_reducible refine (HADD.out wr.drew.drew HBT.out y ((a : Int) + (y.size : Int))).mono ?_); (rintro e6 w6 ⟨rfl, ⟨v6, hS6, hL6⟩, hb6, hk6⟩))
          all_goals
            go_wp2_with fail
          all_goals
            go_returns
            rw [HRE.out]
            exact ⟨rfl, ⟨_, _, _, _, v6, _, hS6, hL6, (fun _ => ⟨rfl, rfl, rfl, rfl⟩), (fun h => absurd rfl h)⟩, (HBT.out.mono HAB.out).trans hb6⟩
      · have hleb : decide ((a : Int) + (y.size : Int) ≤ (t.size : Int)) = false := decide_eq_false (by omega)
        have HN := Lib.hid (show fdR (t.data.toList.drop a) (i + 1) = fdR (t.data.toList.drop a) 0 by rw [← HF.out]; exact (hfn (hpf (by omega))).symm)
        clear hpr hpf hfy hfn
        go_upto_region 27 with fail
        go_region
        go_wp2_with fail
        go_roundw
        case rel => exact ⟨i + 1, by omega, HN.out, by go_num, HB8.out.drew⟩
        case measure => simp [intOf]; omega
    · have hi38 : i = 38 := by omega
      subst hi38
      have hsn : snR r t a l = ⟨r, (a : Int), l, (a : Int), 9⟩ := by
        unfold snR
        have hnone : fdR (t.data.toList.drop a) 38 = none := rfl
        rw [← HF0.out, ← HF.out, hnone]
        simp only
        rw [HTX.out, if_pos rfl]
      have hRe : RR = ⟨r, (a : Int), l, (a : Int), 9⟩ := by rw [← HRR.out]; exact hsn
      have HRE := Lib.hid hRe
      clear hsn hRe
      go_wp2_with (first | (go_at_call 54; (with_reducible refine (HFA.out wr HB9.out).mono ?_); (rintro e6 w6 ⟨rfl, hS6, hg6⟩)))
      go_returns
      rw [HRE.out]
      exact ⟨rfl, ⟨_, _, _, _, v, l, hS6, (HC.out wr HB9.out).1.slgb (HC.out wr HB9.out).2 hg6, (fun h => absurd h (show ¬ ((9 : Int) = 0) by decide)), (fun _ => ⟨rfl, rfl⟩)⟩, (HB9.out.mono HAB.out).trans (hg6.below hB (by have := HAB.out; have := HB9.out.size; omega))⟩
set_option maxRecDepth 100000 in
set_option maxHeartbeats 8000000 in
theorem nx_sgp (B S a : Nat) (t : ByteArray) (r b : Int) (v : Value) (l : List Sy) (w : World) (hS : Rc w S t (a : Int) r v 0 b) (hL : Sl w B v l) (hB : B ≤ S) (hl : t.size ≤ 100000) (hll : l.length ≤ 1000000) (ha : a < t.size) (hr : 0 ≤ r ∧ r ≤ 2) (hbd : bdF r t a = (⟨#[]⟩, a)) (hw : bBl (pk t a) = false) (hw2 : bTx (pk t a) = true) (n35 : pk t a ≠ 35) (n34 : pk t a ≠ 34) (n36 : pk t a ≠ 36) (hd : bDi (pk t a) = false) (hlt2 : ltB r (pk t a) = false) (h46 : pk t a = 46) (hd2 : bDi (pk t (a + 1)) = false) :
    Calls Tryz.prog 23 #[.pointer (some ⟨S, 0, none⟩)] w (RPo B S t w (snR r t a l)) := by
  have hlt := hS.lt
  have c0 := hS.c0
  have c1 := hS.c1
  have c2 := hS.c2
  have fS := fun i => Own.frozen hS i
  have HC : Hid (∀ W, Below w.heap.size w W → Rc W S t (a : Int) r v 0 b ∧ Sl W B v l) := Lib.hid (fun W hb => ⟨hS.kept hb, hS.sl hL hb⟩)
  have HBD : Hid (Below w.heap.size w w.drew) := Lib.hid (Below.refl _ w).drew
  have HAB : Hid (B ≤ w.heap.size) := Lib.hid (by omega)
  have hp := pk_bd t a
  have hpi := (pk_in ha).symm
  have hq := pk_bd t (a + 1)
  have HAT : Hid (∀ W, Below w.heap.size w W → Calls Tryz.prog 60 #[.pointer (some ⟨S, 0, none⟩), .int .i64 ((a : Int) + 1)] W fun e w' => e = .returned (.int .u8 (pk t (a + 1))) ∧ W = w') := Lib.hid (fun W hb => at_any t S (a + 1) W (hS.kept hb).c0 hl (by omega))
  have HBO := Lib.hid (rbold_any t S a r w.drew (hS.kept HBD.out).c0 (hS.kept HBD.out).c2 hr hl (by omega))
  have hbe := bd_end r t a ha
  have HF0 := Lib.hid (fr_eq (t.data.toList.drop a))
  have HPR := Lib.hid (fun (s : List UInt8) (h : a + s.length ≤ t.size) => pre_ext (t := t) (a := a) h)
  have HPF := Lib.hid (fun (s : List UInt8) (h : t.size < a + s.length) => pre_far (t := t) (a := a) h (by omega))
  have HFA := Lib.hid (fun (W : World) (hb : Below w.heap.size w W) => fail_new S t (a : Int) r v b 9 (a : Int) W (hS.kept hb))
  have HADD := Lib.hid (fun (W : World) (hb : Below w.heap.size w W) (y : ByteArray) (z : Int) => radd_any B S t (a : Int) r v 0 b 8 (a : Int) z y l W (hS.kept hb) (hS.sl hL hb) hB hll)
  have HTX : Hid (bTx (pk t a) = true) := Lib.hid hw2
  obtain ⟨p, hpe⟩ : ∃ p, pk t a = p := ⟨_, rfl⟩
  have HP := Lib.hid hpe
  obtain ⟨q, hqe⟩ : ∃ q, pk t (a + 1) = q := ⟨_, rfl⟩
  have HQ := Lib.hid hqe
  rw [hpe] at hp hpi
  rw [hqe] at hq HAT
  obtain ⟨⟨x, z⟩, hx⟩ : ∃ b, bdF r t a = b := ⟨_, rfl⟩
  have HX := Lib.hid hx
  rw [hx] at HBO hbe
  simp only at HBO hbe
  have h1 := fun w => rb_bl p w hp.1 hp.2
  have h2 := fun w => rb_tx p w hp.1 hp.2
  have h3 := fun w => rb_di p w hp.1 hp.2
  have h4 := fun w => rb_di q w hq.1 hq.2
  have HLE : Hid (∀ W, Below w.heap.size w W → Calls Tryz.prog 62 #[.pointer (some ⟨S, 0, none⟩), .int .u8 p] W fun e w' => e = .returned (.bool (ltB r p)) ∧ W = w') := Lib.hid (fun W hb => letter_any S r p W (hS.kept hb).c2 hp.1 hp.2)
  rw [hpe] at hw hw2 n35 n34 n36 hd hlt2 h46
  rw [hqe] at hd2
  rw [hlt2] at HLE
  rw [show bBl p = false from hw] at h1
  rw [show bTx p = true from hw2] at h2
  rw [show bDi p = false from hd] at h3
  rw [hbd] at hx
  cases hx
  have k35 : (p == 35) = false := by rw [beq_eq_false_iff_ne]; exact n35
  have k34 : (p == 34) = false := by rw [beq_eq_false_iff_ne]; exact n34
  have k36 : (p == 36) = false := by rw [beq_eq_false_iff_ne]; exact n36
  rw [show bDi q = false from hd2] at h4
  have k46 : (p == 46) = true := by rw [h46]; rfl
  clear hd2 h46
  clear n35 n34 n36 hd hlt2 hw hw2
  obtain ⟨RR, hRR⟩ : ∃ R : Rs, snR r t a l = R := ⟨_, rfl⟩
  rw [hRR]
  have HRR := Lib.hid hRR
  have H1 := Lib.hid h1
  have H2 := Lib.hid h2
  have H3 := Lib.hid h3
  have H4 := Lib.hid h4
  (try clear hx)
  clear h1 h2 h3 h4 hS hL hpe hqe hRR hr hbd
  go_enter Tryz.func23, Tryz.ntmps23
  go_upto_region 0 with fail
  go_region
  go_wp2_with (first | (go_at_call 52; (with_reducible refine (H1.out _).mono ?_); rintro e w' ⟨rfl, rfl⟩) | (go_at_call 53; (with_reducible refine (H2.out _).mono ?_); rintro e w' ⟨rfl, rfl⟩) | (go_at_call 56; (with_reducible refine HBO.out.mono ?_); (rintro e5 wb ⟨rfl, kb⟩); (have HBW : Hid (Below w.heap.size w wb) := Lib.hid (HBD.out.trans (kb.mono (by simp [sz_drew])))); (have hRb := (HC.out wb HBW.out).1); (have d0 : wb.cell? ⟨S, 0, none⟩ = some (.string t) := Own.cell hRb 0); (have d1 : wb.cell? ⟨S, 1, none⟩ = some (.int .i64 (a : Int)) := Own.cell hRb 1); (have d2 : wb.cell? ⟨S, 2, none⟩ = some (.int .i64 r) := Own.cell hRb 2); (have fb := fun i => Own.frozen hRb i); (have lb := Own.lt hRb); (have zb := HBW.out.size); clear hRb) | (go_at_call 59; (with_reducible refine (H3.out _).mono ?_); rintro e w' ⟨rfl, rfl⟩) | (go_at_call 60; (with_reducible refine (HAT.out _ HBW.out).mono ?_); rintro e w' ⟨rfl, rfl⟩) | (go_at_call 59; (with_reducible refine (H4.out _).mono ?_); rintro e w' ⟨rfl, rfl⟩) | (go_at_call 62; (with_reducible refine (HLE.out _ HBW.out).mono ?_); rintro e w' ⟨rfl, rfl⟩) | (go_at_call 66; (with_reducible refine (rsigns_any wb).mono ?_); (rintro e7 w7 ⟨rfl, hw7⟩); (have HB7 : Hid (Below w.heap.size w w7) := Lib.hid (by rw [hw7]; exact HBW.out.alloc zb _)); (have HG7 : Hid (∀ i : Nat, i < 38 → w7.cell? ⟨wb.heap.size, i, none⟩ = some (.string ⟨(sgR.getD i []).toArray⟩)) := Lib.hid (fun i hi => by rw [hw7]; exact ((Own.new wb 9 rsgV).cell i).trans (rsgV_at i hi))); (have hz7 : wb.heap.size < w7.heap.size := by rw [hw7]; simp); clear hw7))
  go_loopw [6] (fun v6 wr => ∃ i : Nat, i ≤ 38 ∧ fdR (t.data.toList.drop a) i = fdR (t.data.toList.drop a) 0 ∧ v6 = .int .i64 i ∧ Below w7.heap.size w7 wr) (fun v6 _ => 38 - (intOf v6).toNat)
  case atStart => exact ⟨0, Nat.zero_le _, rfl, rfl, Below.refl _ w7⟩
  case round =>
    obtain ⟨i, hi, hf, rfl, hb8⟩ := hrel
    have HF := Lib.hid hf
    have hb9 := HB7.out.trans (hb8.mono HB7.out.size)
    have hRr := (HC.out wr hb9).1
    have d0 : wr.cell? ⟨S, 0, none⟩ = some (.string t) := Own.cell hRr 0
    have d1 : wr.cell? ⟨S, 1, none⟩ = some (.int .i64 (a : Int)) := Own.cell hRr 1
    have f8 := fun i => Own.frozen hRr i
    have l8 := Own.lt hRr
    have z8 := hb8.size
    have HB8 := Lib.hid hb8
    have HB9 := Lib.hid hb9
    clear hf hb8 hb9 hRr
    by_cases h38 : i < 38
    · have hcell : wr.cell? ⟨wb.heap.size, i, none⟩ = some (.string ⟨(sgR.getD i []).toArray⟩) := (HB8.out.cell (p := ⟨wb.heap.size, i, none⟩) hz7).trans (HG7.out i h38)
      have hsl := sr_len i h38
      have hfy := fr_yes (d := t.data.toList.drop a) h38
      have hfn := fr_no (d := t.data.toList.drop a) h38
      obtain ⟨s, hs⟩ : ∃ s, sgR.getD i [] = s := ⟨_, rfl⟩
      rw [hs] at hcell hsl hfy hfn
      have hpr := HPR.out s
      have hpf := HPF.out s
      obtain ⟨y, hy⟩ : ∃ y, (⟨s.toArray⟩ : ByteArray) = y := ⟨_, rfl⟩
      have hys : y.size = s.length := by rw [← hy]; exact List.size_toArray
      rw [hy] at hcell hpr
      rw [← hys] at hpr hpf hsl
      have q1 : IntKind.i64.wrap ((a : Int) + (y.size : Int)) = (a : Int) + (y.size : Int) := IntWalk.i64_in _ (by omega)
      have HY := Lib.hid hy
      have HYS := Lib.hid hys
      clear hs hy hys
      by_cases hle : a + y.size ≤ t.size
      · have hp2 := hpr hle
        have hleb : decide ((a : Int) + (y.size : Int) ≤ (t.size : Int)) = true := decide_eq_true (by omega)
        cases hpx : Lib.hasPrefix (t.data.toList.drop a) s
        · rw [hpx] at hp2
          have HN := Lib.hid (show fdR (t.data.toList.drop a) (i + 1) = fdR (t.data.toList.drop a) 0 by rw [← HF.out]; exact (hfn hpx).symm)
          clear hpr hpf hfy hfn hpx
          go_upto_region 27 with fail
          go_region
          go_wp2_with fail
          go_roundw
          case rel => exact ⟨i + 1, by omega, HN.out, by go_num, HB8.out.drew⟩
          case measure => simp [intOf]; omega
        · rw [hpx] at hp2
          have hsn : snR r t a l = ⟨r, (a : Int) + (y.size : Int), l ++ [(8, y, (a : Int))], 0, 0⟩ := by
            unfold snR
            rw [← HF0.out, ← HF.out, hfy hpx]
            simp only
            rw [HY.out, HYS.out]
          have hRe : RR = ⟨r, (a : Int) + (y.size : Int), l ++ [(8, y, (a : Int))], 0, 0⟩ := by rw [← HRR.out]; exact hsn
          have HRE := Lib.hid hRe
          have HBT : Hid (Below w.heap.size w wr.drew.drew) := Lib.hid HB9.out.drew.drew
          clear hpr hpf hfy hfn hpx hsn hRe
          go_upto_region 27 with fail
          go_region
          go_upto_region 28 with fail
          go_region_with (go_at_call 58; (with_reducible refine (HADD.out wr.drew.drew HBT.out y ((a : Int) + (y.size : Int))).mono ?_); (rintro e6 w6 ⟨rfl, ⟨v6, hS6, hL6⟩, hb6, hk6⟩))
          all_goals
            go_wp2_with fail
          all_goals
            go_returns
            rw [HRE.out]
            exact ⟨rfl, ⟨_, _, _, _, v6, _, hS6, hL6, (fun _ => ⟨rfl, rfl, rfl, rfl⟩), (fun h => absurd rfl h)⟩, (HBT.out.mono HAB.out).trans hb6⟩
      · have hleb : decide ((a : Int) + (y.size : Int) ≤ (t.size : Int)) = false := decide_eq_false (by omega)
        have HN := Lib.hid (show fdR (t.data.toList.drop a) (i + 1) = fdR (t.data.toList.drop a) 0 by rw [← HF.out]; exact (hfn (hpf (by omega))).symm)
        clear hpr hpf hfy hfn
        go_upto_region 27 with fail
        go_region
        go_wp2_with fail
        go_roundw
        case rel => exact ⟨i + 1, by omega, HN.out, by go_num, HB8.out.drew⟩
        case measure => simp [intOf]; omega
    · have hi38 : i = 38 := by omega
      subst hi38
      have hsn : snR r t a l = ⟨r, (a : Int), l, (a : Int), 9⟩ := by
        unfold snR
        have hnone : fdR (t.data.toList.drop a) 38 = none := rfl
        rw [← HF0.out, ← HF.out, hnone]
        simp only
        rw [HTX.out, if_pos rfl]
      have hRe : RR = ⟨r, (a : Int), l, (a : Int), 9⟩ := by rw [← HRR.out]; exact hsn
      have HRE := Lib.hid hRe
      clear hsn hRe
      go_wp2_with (first | (go_at_call 54; (with_reducible refine (HFA.out wr HB9.out).mono ?_); (rintro e6 w6 ⟨rfl, hS6, hg6⟩)))
      go_returns
      rw [HRE.out]
      exact ⟨rfl, ⟨_, _, _, _, v, l, hS6, (HC.out wr HB9.out).1.slgb (HC.out wr HB9.out).2 hg6, (fun h => absurd h (show ¬ ((9 : Int) = 0) by decide)), (fun _ => ⟨rfl, rfl⟩)⟩, (HB9.out.mono HAB.out).trans (hg6.below hB (by have := HAB.out; have := HB9.out.size; omega))⟩
theorem rnext_any (B S a : Nat) (t : ByteArray) (r b : Int) (v : Value) (l : List Sy) (w : World) (hS : Rc w S t (a : Int) r v 0 b) (hL : Sl w B v l) (hB : B ≤ S) (hl : t.size ≤ 100000) (hll : l.length ≤ 1000000) (ha : a < t.size) (hr : 0 ≤ r ∧ r ≤ 2) :
    Calls Tryz.prog 23 #[.pointer (some ⟨S, 0, none⟩)] w (RPo B S t w (nxR r t a l)) := by
  unfold nxR
  cases hw : bBl (pk t a)
  · rw [if_neg (by decide)]
    cases hw2 : bTx (pk t a)
    · rw [st_form ha hw2]; exact nx_form B S a t r b v l w hS hL hB hl hll ha hr hw hw2
    by_cases n35 : pk t a = 35
    · have : stR r t a l = ⟨r, (cmE t (a : Int) (a + 1)).1, l, (cmE t (a : Int) (a + 1)).2.1, (cmE t (a : Int) (a + 1)).2.2⟩ := by unfold stR; rw [if_pos n35]
      rw [this]; exact nx_com B S a t r b v l w hS hL hB hl hll ha hr n35
    by_cases hx : (bdF r t a).1 = ⟨#[]⟩
    · have hbd : bdF r t a = (⟨#[]⟩, a) := by
        rcases bd_cases r t a ha with h1 | ⟨h1, _⟩
        · exact h1
        · exact absurd hx h1
      cases hd : bDi (pk t a)
      · by_cases h46 : pk t a = 46 ∧ bDi (pk t (a + 1)) = true
        · rw [st_num (Or.inr h46)]; exact nx_pnt B S a t r b v l w hS hL hB hl hll ha hr h46.1 h46.2
        · cases hlt : ltB r (pk t a)
          · by_cases n34 : pk t a = 34
            · have : stR r t a l = quR r t a l := by unfold stR; rw [if_neg n35, if_pos n34]
              rw [this]; exact nx_quo B S a t r b v l w hS hL hB hl hll ha hr n34
            · by_cases n36 : pk t a = 36
              · have : stR r t a l = fmR r t a l := by unfold stR; rw [if_neg n35, if_neg n34, if_pos n36]
                rw [this]; exact nx_for B S a t r b v l w hS hL hB hl hll ha hr n36
              · rw [st_sign hbd n35 n34 n36 (fun h => h.elim (fun h => by rw [hd] at h; cases h) h46) hlt]
                by_cases n46 : pk t a = 46
                · have hd2 : bDi (pk t (a + 1)) = false := by
                    cases h : bDi (pk t (a + 1))
                    · rfl
                    · exact absurd ⟨n46, h⟩ h46
                  exact nx_sgp B S a t r b v l w hS hL hB hl hll ha hr hbd hw hw2 n35 n34 n36 hd hlt n46 hd2
                · exact nx_sgn B S a t r b v l w hS hL hB hl hll ha hr hbd hw hw2 n35 n34 n36 hd hlt n46
          · rw [st_tag hlt]; exact nx_tag B S a t r b v l w hS hL hB hl hll ha hr hlt
      · rw [st_num (Or.inl hd)]; exact nx_dig B S a t r b v l w hS hL hB hl hll ha hr hd
    · rw [st_word hx ha]
      unfold wdR
      by_cases h0 : (bdF r t a).1 = ⟨#[67, 79]⟩
      · rw [if_pos (Or.inl h0)]
        have := nx_wd0 B S a t r b v l w hS hL hB hl hll ha hr h0
        rw [h0]; exact this
      · by_cases h1 : (bdF r t a).1 = ⟨#[67, 79, 77, 77, 69, 78, 84]⟩
        · rw [if_pos (Or.inr h1)]
          have := nx_wd1 B S a t r b v l w hS hL hB hl hll ha hr h1
          rw [h1]; exact this
        · rw [if_neg (fun h => h.elim h0 h1)]
          by_cases h2 : (bdF r t a).1 = ⟨#[80, 82]⟩
          · rw [if_pos (Or.inl h2)]
            have := nx_wd2 B S a t r b v l w hS hL hB hl hll ha hr h2
            rw [h2]; exact this
          · by_cases h3 : (bdF r t a).1 = ⟨#[80, 82, 65, 71, 77, 65, 84]⟩
            · rw [if_pos (Or.inr h3)]
              have := nx_wd3 B S a t r b v l w hS hL hB hl hll ha hr h3
              rw [h3]; exact this
            · rw [if_neg (fun h => h.elim h2 h3)]
              by_cases hz : 40 < (bdF r t a).1.size
              · exact nx_sh1 B S a t r b v l w hS hL hB hl hll ha hr hx h0 h1 h2 h3 hz
              · exact nx_sh0 B S a t r b v l w hS hL hB hl hll ha hr hx h0 h1 h2 h3 hz
  · rw [if_pos rfl]; exact nx_blank B S a t r b v l w hS hL hB hl hll ha hr hw
end Go.Proofs.YtbnldpcbdeeflaaGreatDoor
