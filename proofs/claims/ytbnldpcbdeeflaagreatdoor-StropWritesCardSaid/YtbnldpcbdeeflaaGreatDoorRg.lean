/- The regime that the reference's pragmat sets. Condition: its block is the call's own. -/
import Derived.Test.YtbnldpcbdeeflaaGreatDoorRl
import Derived.Test.YtbnldpcbdeeflaaGreatDoorGRm
import Derived.Test.YtbnldpcbdeeflaaGreatDoorRx
namespace Go.Proofs.YtbnldpcbdeeflaaGreatDoor
open Go.ChangeShapes Go.WideShapes Go.ChangeAt Go.RowKit

theorem lo_lb : ∀ n : Fin 256, Lib.lowerB (UInt8.ofNat n.val) = cu (loA (n.val : Int)) := by decide +kernel
theorem lo_pk {t : ByteArray} {j : Nat} (h : j < t.size) : Lib.lowerB t[j] = cu (loA (pk t j)) := by
  have := lo_lb ⟨t[j].toNat, t[j].toNat_lt⟩
  simp only [UInt8.ofNat_toNat] at this
  rw [this, pk_in h]
theorem bl_ct : ∀ n : Fin 256, ([9, 10, 32] : List UInt8).contains (UInt8.ofNat n.val) = bBl (n.val : Int) := by decide +kernel
theorem bl_lb : ∀ n : Fin 256, ([9, 10, 32] : List UInt8).contains (Lib.lowerB (UInt8.ofNat n.val)) = ([9, 10, 32] : List UInt8).contains (UInt8.ofNat n.val) := by decide +kernel
/-- Without the blanks before it; behind it. -/
def dL (l : List UInt8) : List UInt8 := l.dropWhile (([9, 10, 32] : List UInt8).contains ·)
def dR : List UInt8 → List UInt8
  | [] => []
  | c :: l => if dR l = [] then (if ([9, 10, 32] : List UInt8).contains c = true then [] else [c]) else c :: dR l
theorem dw_snoc (p : UInt8 → Bool) (l : List UInt8) (c : UInt8) : (l ++ [c]).dropWhile p = if l.dropWhile p = [] then (if p c = true then [] else [c]) else l.dropWhile p ++ [c] := by
  induction l with
  | nil => simp only [List.nil_append, List.dropWhile_nil, if_true]; rw [List.dropWhile_cons, List.dropWhile_nil]
  | cons x xs ih =>
    rw [List.cons_append, List.dropWhile_cons, List.dropWhile_cons]
    cases hp : p x
    · simp only [Bool.false_eq_true, if_false]
      rw [if_neg (List.cons_ne_nil _ _)]
      rfl
    · rw [if_pos rfl, if_pos rfl]; exact ih
theorem dR_rev (l : List UInt8) : (l.reverse.dropWhile (([9, 10, 32] : List UInt8).contains ·)).reverse = dR l := by
  induction l with
  | nil => rfl
  | cons c l ih =>
    rw [List.reverse_cons, dw_snoc]
    unfold dR
    by_cases h : l.reverse.dropWhile (([9, 10, 32] : List UInt8).contains ·) = []
    · have h2 : dR l = [] := by rw [← ih, h]; rfl
      rw [if_pos h, if_pos h2]
      split <;> rfl
    · have h2 : dR l ≠ [] := by rw [← ih]; exact fun e => h (List.reverse_eq_nil_iff.1 e)
      rw [if_neg h, if_neg h2, List.reverse_append, ih]
      rfl
theorem dLR (l : List UInt8) : dL (dR l) = dR (dL l) := by
  induction l with
  | nil => rfl
  | cons c l ih =>
    cases hp : ([9, 10, 32] : List UInt8).contains c
    · have h1 : dL (c :: l) = c :: l := by unfold dL; rw [List.dropWhile_cons, hp, if_neg (by decide)]
      rw [h1]
      have h2 : ∃ m, dR (c :: l) = c :: m := by
        unfold dR
        rw [hp]
        split
        · exact ⟨[], by rw [if_neg (by decide)]⟩
        · exact ⟨_, rfl⟩
      obtain ⟨m, hm⟩ := h2
      rw [hm]
      unfold dL
      rw [List.dropWhile_cons, hp, if_neg (by decide)]
    · have h1 : dL (c :: l) = dL l := by unfold dL; rw [List.dropWhile_cons, hp, if_pos rfl]
      rw [h1, ← ih]
      by_cases h : dR l = []
      · have h2 : dR (c :: l) = [] := by unfold dR; rw [if_pos h, hp, if_pos rfl]
        rw [h2, h]
      · have h2 : dR (c :: l) = c :: dR l := by
          conv => lhs; unfold dR
          rw [if_neg h]
        rw [h2]
        show dL (c :: dR l) = dL (dR l)
        unfold dL
        rw [List.dropWhile_cons, hp, if_pos rfl]
theorem dL_low (l : List UInt8) : dL (Lib.toLowerA l) = Lib.toLowerA (dL l) := by
  unfold dL Lib.toLowerA
  rw [List.dropWhile_map]
  congr 2
  funext b
  have := bl_lb ⟨b.toNat, b.toNat_lt⟩
  simp only [UInt8.ofNat_toNat] at this
  exact this
theorem dR_low (l : List UInt8) : dR (Lib.toLowerA l) = Lib.toLowerA (dR l) := by
  induction l with
  | nil => rfl
  | cons c l ih =>
    have hb := bl_lb ⟨c.toNat, c.toNat_lt⟩
    simp only [UInt8.ofNat_toNat] at hb
    have hc : Lib.toLowerA (c :: l) = Lib.lowerB c :: Lib.toLowerA l := rfl
    rw [hc]
    unfold dR
    rw [ih, hb]
    by_cases h : dR l = []
    · rw [if_pos h, if_pos (by rw [h]; rfl)]
      split <;> rfl
    · rw [if_neg h, if_neg (by intro e; exact h (List.map_eq_nil_iff.1 e))]
      rfl
theorem pg_ref (x : ByteArray) : dR (dL (Lib.toLowerA x.data.toList)) = pgT x := by
  unfold pgT Lib.trimS Lib.trimLeftS Lib.trimRightS
  rw [dR_rev, dL_low, dR_low, ← dLR]
  rfl
theorem lw_succ {x : ByteArray} {k : Nat} (h : k < x.size) : Lib.toLowerA (List.take (k + 1) x.data.toList) = Lib.toLowerA (List.take k x.data.toList) ++ [cu (loA (pk x k))] := by
  unfold Lib.toLowerA
  rw [List.take_add_one, List.map_append, List.getElem?_eq_getElem (by rw [Array.length_toList]; exact h)]
  simp only [Option.toList_some, List.map_cons, List.map_nil]
  congr 2
  exact lo_pk h
theorem dL_yes {y : ByteArray} (h : 0 < y.size) (k : bBl (pk y 0) = true) : dL (y.extract 1 y.size).data.toList = dL y.data.toList := by
  have hc := bl_ct ⟨y[0].toNat, y[0].toNat_lt⟩
  simp only [UInt8.ofNat_toNat] at hc
  rw [pk_in h] at k
  rw [k] at hc
  have he : y.data.toList = y[0] :: (y.extract 1 y.size).data.toList := by
    have h1 := drop_pk (t := y) (i := 0) h
    rw [List.drop_zero, cu_in h] at h1
    rw [Lib.extract_data, List.take_of_length_le (by rw [List.length_drop, Array.length_toList]; exact Nat.le_refl _)]
    exact h1
  conv => rhs; rw [he]
  unfold dL
  rw [List.dropWhile_cons, hc, if_pos rfl]
theorem dL_no {y : ByteArray} (h : 0 < y.size) (k : bBl (pk y 0) = false) : dL y.data.toList = y.data.toList := by
  have hc := bl_ct ⟨y[0].toNat, y[0].toNat_lt⟩
  simp only [UInt8.ofNat_toNat] at hc
  rw [pk_in h] at k
  rw [k] at hc
  have h1 := drop_pk (t := y) (i := 0) h
  rw [List.drop_zero, cu_in h] at h1
  rw [h1]
  unfold dL
  rw [List.dropWhile_cons, hc, if_neg (by decide)]
theorem dR_snoc (l : List UInt8) (c : UInt8) : dR (l ++ [c]) = if ([9, 10, 32] : List UInt8).contains c = true then dR l else l ++ [c] := by
  induction l with
  | nil =>
    rw [List.nil_append]
    unfold dR
    rw [if_pos (show dR [] = [] from rfl)]
  | cons x xs ih =>
    rw [List.cons_append]
    unfold dR
    rw [ih]
    split
    · rfl
    · rw [if_neg (by simp)]
theorem last_eq {y : ByteArray} {n : Nat} (h : y.size = n + 1) (hn : n < y.size) : y.data.toList = (y.extract 0 n).data.toList ++ [y[n]] := by
  rw [Lib.extract_data, List.drop_zero, Nat.sub_zero]
  have hl : y.data.toList.length = n + 1 := by rw [Array.length_toList]; exact h
  conv => lhs; rw [← List.take_of_length_le (Nat.le_of_eq hl)]
  rw [List.take_add_one, List.getElem?_eq_getElem (by omega)]
  rfl
theorem dR_yes {y : ByteArray} {n : Nat} (h : y.size = n + 1) (k : bBl (pk y n) = true) : dR (y.extract 0 n).data.toList = dR y.data.toList := by
  have hn : n < y.size := by omega
  have hc := bl_ct ⟨y[n].toNat, y[n].toNat_lt⟩
  simp only [UInt8.ofNat_toNat] at hc
  rw [pk_in hn] at k
  rw [k] at hc
  conv => rhs; rw [last_eq h hn]
  rw [dR_snoc, hc, if_pos rfl]
theorem dR_no {y : ByteArray} {n : Nat} (h : y.size = n + 1) (k : bBl (pk y n) = false) : dR y.data.toList = y.data.toList := by
  have hn : n < y.size := by omega
  have hc := bl_ct ⟨y[n].toNat, y[n].toNat_lt⟩
  simp only [UInt8.ofNat_toNat] at hc
  rw [pk_in hn] at k
  rw [k] at hc
  conv => lhs; rw [last_eq h hn]
  rw [dR_snoc, hc, if_neg (by decide), ← last_eq h hn]
set_option maxRecDepth 100000 in
set_option maxHeartbeats 4000000 in
theorem rreg_u (S : Nat) (t x : ByteArray) (a r : Int) (v : Value) (e b : Int) (w : World) (hS : Rc w S t a r v e b) (hx : x.size ≤ 100000) (hpg : pgT x = [117, 112, 112, 101, 114]) :
    Calls Tryz.prog 94 #[.pointer (some ⟨S, 0, none⟩), .string x] w fun y w' => y = .returned (.tuple #[]) ∧ Rc w' S t a 0 v e b ∧ Gb S w w' := by
  have hlt := hS.lt
  have HS := Lib.hid hS
  have HPG := Lib.hid (pg_ref x)
  clear hS
  go_enter Tryz.func94, Tryz.ntmps94
  go_wp2
  go_loopw [4, 5] (fun v4 v5 wr => ∃ k : Nat, k ≤ x.size ∧ v4 = .string ⟨(Lib.toLowerA (List.take k x.data.toList)).toArray⟩ ∧ v5 = .int .i64 k ∧ Below w.heap.size w wr) (fun _ v5 _ => x.size - (intOf v5).toNat)
  case atStart => exact ⟨0, Nat.zero_le _, rfl, rfl, Below.refl _ w⟩
  case round =>
    obtain ⟨k, hk, rfl, rfl, hb⟩ := hrel
    have hwz := hb.size
    have HB := Lib.hid hb
    have hzl : (Lib.toLowerA (List.take k x.data.toList)).length ≤ k := by unfold Lib.toLowerA; rw [List.length_map, List.length_take]; omega
    clear hb
    by_cases hkx : k < x.size
    · have hp := pk_bd x k
      have hpi := (pk_in hkx).symm
      obtain ⟨y, hy⟩ : ∃ y, (⟨(Lib.toLowerA (List.take k x.data.toList)).toArray⟩ : ByteArray) = y := ⟨_, rfl⟩
      have hys : y.size ≤ 200000 := by rw [← hy]; show (Lib.toLowerA (List.take k x.data.toList)).toArray.size ≤ _; rw [List.size_toArray]; omega
      have HN := Lib.hid (show (⟨(Lib.toLowerA (List.take (k + 1) x.data.toList)).toArray⟩ : ByteArray) = y ++ ⟨#[cu (loA (pk x k))]⟩ by rw [← hy, app_one, lw_succ hkx])
      rw [hy]
      obtain ⟨p, hpe⟩ : ∃ p, pk x k = p := ⟨_, rfl⟩
      rw [hpe] at hp hpi HN
      have hrb := lo_bd hp.1 hp.2
      have H9 := Lib.hid (fun w => rb_lo p w hp.1 hp.2)
      have HCV := fun W => conv_one (loA p) hrb.1 hrb.2 W
      obtain ⟨g, hg⟩ : ∃ g, loA p = g := ⟨_, rfl⟩
      rw [hg] at H9 HCV HN
      clear hy hpe hg hzl
      go_wp2_with (first | (go_at_call 69; (with_reducible refine (H9.out _).mono ?_); rintro e w' ⟨rfl, rfl⟩))
      go_roundw
      case rel => exact ⟨k + 1, hkx, by rw [HN.out], by go_num, HB.out.alloc hwz _⟩
      case measure => simp [intOf]; omega
    · have hke : k = x.size := by omega
      subst hke
      obtain ⟨y, hy⟩ : ∃ y, (⟨(Lib.toLowerA (List.take x.size x.data.toList)).toArray⟩ : ByteArray) = y := ⟨_, rfl⟩
      have hyd : dR (dL y.data.toList) = pgT x := by
        rw [← HPG.out, ← hy, List.take_of_length_le (by rw [Array.length_toList]; exact Nat.le_refl _)]
      have hys : y.size ≤ 100000 := by rw [← hy]; show (Lib.toLowerA (List.take x.size x.data.toList)).toArray.size ≤ _; rw [List.size_toArray]; omega
      rw [hy]
      have HYD := Lib.hid hyd
      clear hy hyd hzl
      go_wp2
      go_loop [4] (fun v4 => ∃ z : ByteArray, z.size ≤ y.size ∧ dL z.data.toList = dL y.data.toList ∧ v4 = .string z) (fun v4 => match v4 with | .string z => z.size | _ => 0)
      case atStart => exact ⟨y, Nat.le_refl _, rfl, rfl⟩
      case round =>
        obtain ⟨z, hz, hzd, rfl⟩ := hrel
        have HZD := Lib.hid hzd
        clear hzd
        by_cases hz0 : 0 < z.size
        · have hp := pk_bd z 0
          have hpi := (pk_in hz0).symm
          obtain ⟨p, hpe⟩ : ∃ p, pk z 0 = p := ⟨_, rfl⟩
          have HP := Lib.hid hpe
          rw [hpe] at hp hpi
          have h1 := fun w => rb_bl p w hp.1 hp.2
          clear hpe
          cases hbl : bBl p
          · have HDD := Lib.hid (show dR z.data.toList = pgT x by rw [← HYD.out, ← HZD.out, dL_no hz0 (by rw [HP.out]; exact hbl)])
            rw [hbl] at h1
            have H1 := Lib.hid h1
            clear h1 hbl
            go_wp2_with (first | (go_at_call 52; (with_reducible refine (H1.out _).mono ?_); rintro e w' ⟨rfl, rfl⟩))
            go_loop [4] (fun v4 => ∃ u : ByteArray, u.size ≤ y.size ∧ dR u.data.toList = pgT x ∧ v4 = .string u) (fun v4 => match v4 with | .string u => u.size | _ => 0)
            case atStart => exact ⟨z, hz, HDD.out, rfl⟩
            case round =>
              obtain ⟨u, hu, hud, rfl⟩ := hrel
              have HUD := Lib.hid hud
              clear hud HZD HDD
              rcases Nat.eq_zero_or_pos u.size with hu0 | hu0
              · have hun : u.data.toList = pgT x := by
                  have hzn : u.data.toList = [] := List.length_eq_zero_iff.1 (by rw [Array.length_toList]; exact hu0)
                  rw [← HUD.out, hzn]; rfl
                have hRc := HS.out.kept HB.out
                have c2 := hRc.c2
                have fS := fun i => Own.frozen hRc i
                have lS := hRc.lt
                have hue : u = ⟨#[117, 112, 112, 101, 114]⟩ := bytes_inj (by rw [hun, hpg])
                subst hue
                have HRC := Lib.hid hRc
                clear hRc hun HUD
                go_wp2
                go_returns
                exact ⟨rfl, HRC.out.put 2 (.int .i64 0), (Gb.of HB.out).set (Or.inl rfl) _⟩
              · obtain ⟨n, hn⟩ : ∃ n, u.size = n + 1 := ⟨u.size - 1, by omega⟩
                have hnlt : n < u.size := by omega
                have hp := pk_bd u n
                have hpi := (pk_in hnlt).symm
                have hnz : (u.size : Int) - 1 = (n : Int) := by omega
                obtain ⟨p, hpe⟩ : ∃ p, pk u n = p := ⟨_, rfl⟩
                have HP := Lib.hid hpe
                rw [hpe] at hp hpi
                have h1 := fun w => rb_bl p w hp.1 hp.2
                clear hpe
                cases hbl : bBl p
                · have hun : u.data.toList = pgT x := by rw [← HUD.out, dR_no hn (by rw [HP.out]; exact hbl)]
                  rw [hbl] at h1
                  have H1 := Lib.hid h1
                  clear h1 hbl
                  have hRc := HS.out.kept HB.out
                  have c2 := hRc.c2
                  have fS := fun i => Own.frozen hRc i
                  have lS := hRc.lt
                  have hue : u = ⟨#[117, 112, 112, 101, 114]⟩ := bytes_inj (by rw [hun, hpg])
                  subst hue
                  have HRC := Lib.hid hRc
                  clear hRc hun HUD
                  go_wp2_with (first | (go_at_call 52; (with_reducible refine (H1.out _).mono ?_); rintro e w' ⟨rfl, rfl⟩))
                  go_returns
                  exact ⟨rfl, HRC.out.put 2 (.int .i64 0), (Gb.of HB.out).set (Or.inl rfl) _⟩
                · rw [hbl] at h1
                  have H1 := Lib.hid h1
                  have HN := Lib.hid (show dR (u.extract 0 n).data.toList = pgT x by rw [← HUD.out]; exact dR_yes hn (by rw [HP.out]; exact hbl))
                  clear h1 hbl
                  go_wp2_with (first | (go_at_call 52; (with_reducible refine (H1.out _).mono ?_); rintro e w' ⟨rfl, rfl⟩))
                  go_round
                  case rel => exact ⟨u.extract 0 n, by rw [ByteArray.size_extract]; omega, HN.out, rfl⟩
                  case measure => show (u.extract 0 n).size < u.size; rw [ByteArray.size_extract]; omega
          · rw [hbl] at h1
            have H1 := Lib.hid h1
            have HN := Lib.hid (show dL (z.extract 1 z.size).data.toList = dL y.data.toList by rw [← HZD.out]; exact dL_yes hz0 (by rw [HP.out]; exact hbl))
            clear h1 hbl
            go_wp2_with (first | (go_at_call 52; (with_reducible refine (H1.out _).mono ?_); rintro e w' ⟨rfl, rfl⟩))
            go_round
            case rel => exact ⟨z.extract 1 z.size, by rw [ByteArray.size_extract]; omega, HN.out, rfl⟩
            case measure => show (z.extract 1 z.size).size < z.size; rw [ByteArray.size_extract]; omega
        · have hz1 : z.size = 0 := by omega
          have HDD := Lib.hid (show dR z.data.toList = pgT x by
            have hzn : z.data.toList = [] := List.length_eq_zero_iff.1 (by rw [Array.length_toList]; exact hz1)
            rw [← HYD.out, ← HZD.out, hzn]; rfl)
          go_wp2
          go_loop [4] (fun v4 => ∃ u : ByteArray, u.size ≤ y.size ∧ dR u.data.toList = pgT x ∧ v4 = .string u) (fun v4 => match v4 with | .string u => u.size | _ => 0)
          case atStart => exact ⟨z, hz, HDD.out, rfl⟩
          case round =>
            obtain ⟨u, hu, hud, rfl⟩ := hrel
            have HUD := Lib.hid hud
            clear hud HZD HDD
            rcases Nat.eq_zero_or_pos u.size with hu0 | hu0
            · have hun : u.data.toList = pgT x := by
                have hzn : u.data.toList = [] := List.length_eq_zero_iff.1 (by rw [Array.length_toList]; exact hu0)
                rw [← HUD.out, hzn]; rfl
              have hRc := HS.out.kept HB.out
              have c2 := hRc.c2
              have fS := fun i => Own.frozen hRc i
              have lS := hRc.lt
              have hue : u = ⟨#[117, 112, 112, 101, 114]⟩ := bytes_inj (by rw [hun, hpg])
              subst hue
              have HRC := Lib.hid hRc
              clear hRc hun HUD
              go_wp2
              go_returns
              exact ⟨rfl, HRC.out.put 2 (.int .i64 0), (Gb.of HB.out).set (Or.inl rfl) _⟩
            · obtain ⟨n, hn⟩ : ∃ n, u.size = n + 1 := ⟨u.size - 1, by omega⟩
              have hnlt : n < u.size := by omega
              have hp := pk_bd u n
              have hpi := (pk_in hnlt).symm
              have hnz : (u.size : Int) - 1 = (n : Int) := by omega
              obtain ⟨p, hpe⟩ : ∃ p, pk u n = p := ⟨_, rfl⟩
              have HP := Lib.hid hpe
              rw [hpe] at hp hpi
              have h1 := fun w => rb_bl p w hp.1 hp.2
              clear hpe
              cases hbl : bBl p
              · have hun : u.data.toList = pgT x := by rw [← HUD.out, dR_no hn (by rw [HP.out]; exact hbl)]
                rw [hbl] at h1
                have H1 := Lib.hid h1
                clear h1 hbl
                have hRc := HS.out.kept HB.out
                have c2 := hRc.c2
                have fS := fun i => Own.frozen hRc i
                have lS := hRc.lt
                have hue : u = ⟨#[117, 112, 112, 101, 114]⟩ := bytes_inj (by rw [hun, hpg])
                subst hue
                have HRC := Lib.hid hRc
                clear hRc hun HUD
                go_wp2_with (first | (go_at_call 52; (with_reducible refine (H1.out _).mono ?_); rintro e w' ⟨rfl, rfl⟩))
                go_returns
                exact ⟨rfl, HRC.out.put 2 (.int .i64 0), (Gb.of HB.out).set (Or.inl rfl) _⟩
              · rw [hbl] at h1
                have H1 := Lib.hid h1
                have HN := Lib.hid (show dR (u.extract 0 n).data.toList = pgT x by rw [← HUD.out]; exact dR_yes hn (by rw [HP.out]; exact hbl))
                clear h1 hbl
                go_wp2_with (first | (go_at_call 52; (with_reducible refine (H1.out _).mono ?_); rintro e w' ⟨rfl, rfl⟩))
                go_round
                case rel => exact ⟨u.extract 0 n, by rw [ByteArray.size_extract]; omega, HN.out, rfl⟩
                case measure => show (u.extract 0 n).size < u.size; rw [ByteArray.size_extract]; omega
set_option maxRecDepth 100000 in
set_option maxHeartbeats 4000000 in
theorem rreg_p (S : Nat) (t x : ByteArray) (a r : Int) (v : Value) (e b : Int) (w : World) (hS : Rc w S t a r v e b) (hx : x.size ≤ 100000) (hpg : pgT x = [112, 111, 105, 110, 116]) :
    Calls Tryz.prog 94 #[.pointer (some ⟨S, 0, none⟩), .string x] w fun y w' => y = .returned (.tuple #[]) ∧ Rc w' S t a 1 v e b ∧ Gb S w w' := by
  have hlt := hS.lt
  have HS := Lib.hid hS
  have HPG := Lib.hid (pg_ref x)
  clear hS
  go_enter Tryz.func94, Tryz.ntmps94
  go_wp2
  go_loopw [4, 5] (fun v4 v5 wr => ∃ k : Nat, k ≤ x.size ∧ v4 = .string ⟨(Lib.toLowerA (List.take k x.data.toList)).toArray⟩ ∧ v5 = .int .i64 k ∧ Below w.heap.size w wr) (fun _ v5 _ => x.size - (intOf v5).toNat)
  case atStart => exact ⟨0, Nat.zero_le _, rfl, rfl, Below.refl _ w⟩
  case round =>
    obtain ⟨k, hk, rfl, rfl, hb⟩ := hrel
    have hwz := hb.size
    have HB := Lib.hid hb
    have hzl : (Lib.toLowerA (List.take k x.data.toList)).length ≤ k := by unfold Lib.toLowerA; rw [List.length_map, List.length_take]; omega
    clear hb
    by_cases hkx : k < x.size
    · have hp := pk_bd x k
      have hpi := (pk_in hkx).symm
      obtain ⟨y, hy⟩ : ∃ y, (⟨(Lib.toLowerA (List.take k x.data.toList)).toArray⟩ : ByteArray) = y := ⟨_, rfl⟩
      have hys : y.size ≤ 200000 := by rw [← hy]; show (Lib.toLowerA (List.take k x.data.toList)).toArray.size ≤ _; rw [List.size_toArray]; omega
      have HN := Lib.hid (show (⟨(Lib.toLowerA (List.take (k + 1) x.data.toList)).toArray⟩ : ByteArray) = y ++ ⟨#[cu (loA (pk x k))]⟩ by rw [← hy, app_one, lw_succ hkx])
      rw [hy]
      obtain ⟨p, hpe⟩ : ∃ p, pk x k = p := ⟨_, rfl⟩
      rw [hpe] at hp hpi HN
      have hrb := lo_bd hp.1 hp.2
      have H9 := Lib.hid (fun w => rb_lo p w hp.1 hp.2)
      have HCV := fun W => conv_one (loA p) hrb.1 hrb.2 W
      obtain ⟨g, hg⟩ : ∃ g, loA p = g := ⟨_, rfl⟩
      rw [hg] at H9 HCV HN
      clear hy hpe hg hzl
      go_wp2_with (first | (go_at_call 69; (with_reducible refine (H9.out _).mono ?_); rintro e w' ⟨rfl, rfl⟩))
      go_roundw
      case rel => exact ⟨k + 1, hkx, by rw [HN.out], by go_num, HB.out.alloc hwz _⟩
      case measure => simp [intOf]; omega
    · have hke : k = x.size := by omega
      subst hke
      obtain ⟨y, hy⟩ : ∃ y, (⟨(Lib.toLowerA (List.take x.size x.data.toList)).toArray⟩ : ByteArray) = y := ⟨_, rfl⟩
      have hyd : dR (dL y.data.toList) = pgT x := by
        rw [← HPG.out, ← hy, List.take_of_length_le (by rw [Array.length_toList]; exact Nat.le_refl _)]
      have hys : y.size ≤ 100000 := by rw [← hy]; show (Lib.toLowerA (List.take x.size x.data.toList)).toArray.size ≤ _; rw [List.size_toArray]; omega
      rw [hy]
      have HYD := Lib.hid hyd
      clear hy hyd hzl
      go_wp2
      go_loop [4] (fun v4 => ∃ z : ByteArray, z.size ≤ y.size ∧ dL z.data.toList = dL y.data.toList ∧ v4 = .string z) (fun v4 => match v4 with | .string z => z.size | _ => 0)
      case atStart => exact ⟨y, Nat.le_refl _, rfl, rfl⟩
      case round =>
        obtain ⟨z, hz, hzd, rfl⟩ := hrel
        have HZD := Lib.hid hzd
        clear hzd
        by_cases hz0 : 0 < z.size
        · have hp := pk_bd z 0
          have hpi := (pk_in hz0).symm
          obtain ⟨p, hpe⟩ : ∃ p, pk z 0 = p := ⟨_, rfl⟩
          have HP := Lib.hid hpe
          rw [hpe] at hp hpi
          have h1 := fun w => rb_bl p w hp.1 hp.2
          clear hpe
          cases hbl : bBl p
          · have HDD := Lib.hid (show dR z.data.toList = pgT x by rw [← HYD.out, ← HZD.out, dL_no hz0 (by rw [HP.out]; exact hbl)])
            rw [hbl] at h1
            have H1 := Lib.hid h1
            clear h1 hbl
            go_wp2_with (first | (go_at_call 52; (with_reducible refine (H1.out _).mono ?_); rintro e w' ⟨rfl, rfl⟩))
            go_loop [4] (fun v4 => ∃ u : ByteArray, u.size ≤ y.size ∧ dR u.data.toList = pgT x ∧ v4 = .string u) (fun v4 => match v4 with | .string u => u.size | _ => 0)
            case atStart => exact ⟨z, hz, HDD.out, rfl⟩
            case round =>
              obtain ⟨u, hu, hud, rfl⟩ := hrel
              have HUD := Lib.hid hud
              clear hud HZD HDD
              rcases Nat.eq_zero_or_pos u.size with hu0 | hu0
              · have hun : u.data.toList = pgT x := by
                  have hzn : u.data.toList = [] := List.length_eq_zero_iff.1 (by rw [Array.length_toList]; exact hu0)
                  rw [← HUD.out, hzn]; rfl
                have hRc := HS.out.kept HB.out
                have c2 := hRc.c2
                have fS := fun i => Own.frozen hRc i
                have lS := hRc.lt
                have hue : u = ⟨#[112, 111, 105, 110, 116]⟩ := bytes_inj (by rw [hun, hpg])
                subst hue
                have HRC := Lib.hid hRc
                clear hRc hun HUD
                go_wp2
                go_returns
                exact ⟨rfl, HRC.out.put 2 (.int .i64 1), (Gb.of HB.out).set (Or.inl rfl) _⟩
              · obtain ⟨n, hn⟩ : ∃ n, u.size = n + 1 := ⟨u.size - 1, by omega⟩
                have hnlt : n < u.size := by omega
                have hp := pk_bd u n
                have hpi := (pk_in hnlt).symm
                have hnz : (u.size : Int) - 1 = (n : Int) := by omega
                obtain ⟨p, hpe⟩ : ∃ p, pk u n = p := ⟨_, rfl⟩
                have HP := Lib.hid hpe
                rw [hpe] at hp hpi
                have h1 := fun w => rb_bl p w hp.1 hp.2
                clear hpe
                cases hbl : bBl p
                · have hun : u.data.toList = pgT x := by rw [← HUD.out, dR_no hn (by rw [HP.out]; exact hbl)]
                  rw [hbl] at h1
                  have H1 := Lib.hid h1
                  clear h1 hbl
                  have hRc := HS.out.kept HB.out
                  have c2 := hRc.c2
                  have fS := fun i => Own.frozen hRc i
                  have lS := hRc.lt
                  have hue : u = ⟨#[112, 111, 105, 110, 116]⟩ := bytes_inj (by rw [hun, hpg])
                  subst hue
                  have HRC := Lib.hid hRc
                  clear hRc hun HUD
                  go_wp2_with (first | (go_at_call 52; (with_reducible refine (H1.out _).mono ?_); rintro e w' ⟨rfl, rfl⟩))
                  go_returns
                  exact ⟨rfl, HRC.out.put 2 (.int .i64 1), (Gb.of HB.out).set (Or.inl rfl) _⟩
                · rw [hbl] at h1
                  have H1 := Lib.hid h1
                  have HN := Lib.hid (show dR (u.extract 0 n).data.toList = pgT x by rw [← HUD.out]; exact dR_yes hn (by rw [HP.out]; exact hbl))
                  clear h1 hbl
                  go_wp2_with (first | (go_at_call 52; (with_reducible refine (H1.out _).mono ?_); rintro e w' ⟨rfl, rfl⟩))
                  go_round
                  case rel => exact ⟨u.extract 0 n, by rw [ByteArray.size_extract]; omega, HN.out, rfl⟩
                  case measure => show (u.extract 0 n).size < u.size; rw [ByteArray.size_extract]; omega
          · rw [hbl] at h1
            have H1 := Lib.hid h1
            have HN := Lib.hid (show dL (z.extract 1 z.size).data.toList = dL y.data.toList by rw [← HZD.out]; exact dL_yes hz0 (by rw [HP.out]; exact hbl))
            clear h1 hbl
            go_wp2_with (first | (go_at_call 52; (with_reducible refine (H1.out _).mono ?_); rintro e w' ⟨rfl, rfl⟩))
            go_round
            case rel => exact ⟨z.extract 1 z.size, by rw [ByteArray.size_extract]; omega, HN.out, rfl⟩
            case measure => show (z.extract 1 z.size).size < z.size; rw [ByteArray.size_extract]; omega
        · have hz1 : z.size = 0 := by omega
          have HDD := Lib.hid (show dR z.data.toList = pgT x by
            have hzn : z.data.toList = [] := List.length_eq_zero_iff.1 (by rw [Array.length_toList]; exact hz1)
            rw [← HYD.out, ← HZD.out, hzn]; rfl)
          go_wp2
          go_loop [4] (fun v4 => ∃ u : ByteArray, u.size ≤ y.size ∧ dR u.data.toList = pgT x ∧ v4 = .string u) (fun v4 => match v4 with | .string u => u.size | _ => 0)
          case atStart => exact ⟨z, hz, HDD.out, rfl⟩
          case round =>
            obtain ⟨u, hu, hud, rfl⟩ := hrel
            have HUD := Lib.hid hud
            clear hud HZD HDD
            rcases Nat.eq_zero_or_pos u.size with hu0 | hu0
            · have hun : u.data.toList = pgT x := by
                have hzn : u.data.toList = [] := List.length_eq_zero_iff.1 (by rw [Array.length_toList]; exact hu0)
                rw [← HUD.out, hzn]; rfl
              have hRc := HS.out.kept HB.out
              have c2 := hRc.c2
              have fS := fun i => Own.frozen hRc i
              have lS := hRc.lt
              have hue : u = ⟨#[112, 111, 105, 110, 116]⟩ := bytes_inj (by rw [hun, hpg])
              subst hue
              have HRC := Lib.hid hRc
              clear hRc hun HUD
              go_wp2
              go_returns
              exact ⟨rfl, HRC.out.put 2 (.int .i64 1), (Gb.of HB.out).set (Or.inl rfl) _⟩
            · obtain ⟨n, hn⟩ : ∃ n, u.size = n + 1 := ⟨u.size - 1, by omega⟩
              have hnlt : n < u.size := by omega
              have hp := pk_bd u n
              have hpi := (pk_in hnlt).symm
              have hnz : (u.size : Int) - 1 = (n : Int) := by omega
              obtain ⟨p, hpe⟩ : ∃ p, pk u n = p := ⟨_, rfl⟩
              have HP := Lib.hid hpe
              rw [hpe] at hp hpi
              have h1 := fun w => rb_bl p w hp.1 hp.2
              clear hpe
              cases hbl : bBl p
              · have hun : u.data.toList = pgT x := by rw [← HUD.out, dR_no hn (by rw [HP.out]; exact hbl)]
                rw [hbl] at h1
                have H1 := Lib.hid h1
                clear h1 hbl
                have hRc := HS.out.kept HB.out
                have c2 := hRc.c2
                have fS := fun i => Own.frozen hRc i
                have lS := hRc.lt
                have hue : u = ⟨#[112, 111, 105, 110, 116]⟩ := bytes_inj (by rw [hun, hpg])
                subst hue
                have HRC := Lib.hid hRc
                clear hRc hun HUD
                go_wp2_with (first | (go_at_call 52; (with_reducible refine (H1.out _).mono ?_); rintro e w' ⟨rfl, rfl⟩))
                go_returns
                exact ⟨rfl, HRC.out.put 2 (.int .i64 1), (Gb.of HB.out).set (Or.inl rfl) _⟩
              · rw [hbl] at h1
                have H1 := Lib.hid h1
                have HN := Lib.hid (show dR (u.extract 0 n).data.toList = pgT x by rw [← HUD.out]; exact dR_yes hn (by rw [HP.out]; exact hbl))
                clear h1 hbl
                go_wp2_with (first | (go_at_call 52; (with_reducible refine (H1.out _).mono ?_); rintro e w' ⟨rfl, rfl⟩))
                go_round
                case rel => exact ⟨u.extract 0 n, by rw [ByteArray.size_extract]; omega, HN.out, rfl⟩
                case measure => show (u.extract 0 n).size < u.size; rw [ByteArray.size_extract]; omega
set_option maxRecDepth 100000 in
set_option maxHeartbeats 4000000 in
theorem rreg_q (S : Nat) (t x : ByteArray) (a r : Int) (v : Value) (e b : Int) (w : World) (hS : Rc w S t a r v e b) (hx : x.size ≤ 100000) (hpg : pgT x = [113, 117, 111, 116, 101]) :
    Calls Tryz.prog 94 #[.pointer (some ⟨S, 0, none⟩), .string x] w fun y w' => y = .returned (.tuple #[]) ∧ Rc w' S t a 2 v e b ∧ Gb S w w' := by
  have hlt := hS.lt
  have HS := Lib.hid hS
  have HPG := Lib.hid (pg_ref x)
  clear hS
  go_enter Tryz.func94, Tryz.ntmps94
  go_wp2
  go_loopw [4, 5] (fun v4 v5 wr => ∃ k : Nat, k ≤ x.size ∧ v4 = .string ⟨(Lib.toLowerA (List.take k x.data.toList)).toArray⟩ ∧ v5 = .int .i64 k ∧ Below w.heap.size w wr) (fun _ v5 _ => x.size - (intOf v5).toNat)
  case atStart => exact ⟨0, Nat.zero_le _, rfl, rfl, Below.refl _ w⟩
  case round =>
    obtain ⟨k, hk, rfl, rfl, hb⟩ := hrel
    have hwz := hb.size
    have HB := Lib.hid hb
    have hzl : (Lib.toLowerA (List.take k x.data.toList)).length ≤ k := by unfold Lib.toLowerA; rw [List.length_map, List.length_take]; omega
    clear hb
    by_cases hkx : k < x.size
    · have hp := pk_bd x k
      have hpi := (pk_in hkx).symm
      obtain ⟨y, hy⟩ : ∃ y, (⟨(Lib.toLowerA (List.take k x.data.toList)).toArray⟩ : ByteArray) = y := ⟨_, rfl⟩
      have hys : y.size ≤ 200000 := by rw [← hy]; show (Lib.toLowerA (List.take k x.data.toList)).toArray.size ≤ _; rw [List.size_toArray]; omega
      have HN := Lib.hid (show (⟨(Lib.toLowerA (List.take (k + 1) x.data.toList)).toArray⟩ : ByteArray) = y ++ ⟨#[cu (loA (pk x k))]⟩ by rw [← hy, app_one, lw_succ hkx])
      rw [hy]
      obtain ⟨p, hpe⟩ : ∃ p, pk x k = p := ⟨_, rfl⟩
      rw [hpe] at hp hpi HN
      have hrb := lo_bd hp.1 hp.2
      have H9 := Lib.hid (fun w => rb_lo p w hp.1 hp.2)
      have HCV := fun W => conv_one (loA p) hrb.1 hrb.2 W
      obtain ⟨g, hg⟩ : ∃ g, loA p = g := ⟨_, rfl⟩
      rw [hg] at H9 HCV HN
      clear hy hpe hg hzl
      go_wp2_with (first | (go_at_call 69; (with_reducible refine (H9.out _).mono ?_); rintro e w' ⟨rfl, rfl⟩))
      go_roundw
      case rel => exact ⟨k + 1, hkx, by rw [HN.out], by go_num, HB.out.alloc hwz _⟩
      case measure => simp [intOf]; omega
    · have hke : k = x.size := by omega
      subst hke
      obtain ⟨y, hy⟩ : ∃ y, (⟨(Lib.toLowerA (List.take x.size x.data.toList)).toArray⟩ : ByteArray) = y := ⟨_, rfl⟩
      have hyd : dR (dL y.data.toList) = pgT x := by
        rw [← HPG.out, ← hy, List.take_of_length_le (by rw [Array.length_toList]; exact Nat.le_refl _)]
      have hys : y.size ≤ 100000 := by rw [← hy]; show (Lib.toLowerA (List.take x.size x.data.toList)).toArray.size ≤ _; rw [List.size_toArray]; omega
      rw [hy]
      have HYD := Lib.hid hyd
      clear hy hyd hzl
      go_wp2
      go_loop [4] (fun v4 => ∃ z : ByteArray, z.size ≤ y.size ∧ dL z.data.toList = dL y.data.toList ∧ v4 = .string z) (fun v4 => match v4 with | .string z => z.size | _ => 0)
      case atStart => exact ⟨y, Nat.le_refl _, rfl, rfl⟩
      case round =>
        obtain ⟨z, hz, hzd, rfl⟩ := hrel
        have HZD := Lib.hid hzd
        clear hzd
        by_cases hz0 : 0 < z.size
        · have hp := pk_bd z 0
          have hpi := (pk_in hz0).symm
          obtain ⟨p, hpe⟩ : ∃ p, pk z 0 = p := ⟨_, rfl⟩
          have HP := Lib.hid hpe
          rw [hpe] at hp hpi
          have h1 := fun w => rb_bl p w hp.1 hp.2
          clear hpe
          cases hbl : bBl p
          · have HDD := Lib.hid (show dR z.data.toList = pgT x by rw [← HYD.out, ← HZD.out, dL_no hz0 (by rw [HP.out]; exact hbl)])
            rw [hbl] at h1
            have H1 := Lib.hid h1
            clear h1 hbl
            go_wp2_with (first | (go_at_call 52; (with_reducible refine (H1.out _).mono ?_); rintro e w' ⟨rfl, rfl⟩))
            go_loop [4] (fun v4 => ∃ u : ByteArray, u.size ≤ y.size ∧ dR u.data.toList = pgT x ∧ v4 = .string u) (fun v4 => match v4 with | .string u => u.size | _ => 0)
            case atStart => exact ⟨z, hz, HDD.out, rfl⟩
            case round =>
              obtain ⟨u, hu, hud, rfl⟩ := hrel
              have HUD := Lib.hid hud
              clear hud HZD HDD
              rcases Nat.eq_zero_or_pos u.size with hu0 | hu0
              · have hun : u.data.toList = pgT x := by
                  have hzn : u.data.toList = [] := List.length_eq_zero_iff.1 (by rw [Array.length_toList]; exact hu0)
                  rw [← HUD.out, hzn]; rfl
                have hRc := HS.out.kept HB.out
                have c2 := hRc.c2
                have fS := fun i => Own.frozen hRc i
                have lS := hRc.lt
                have hue : u = ⟨#[113, 117, 111, 116, 101]⟩ := bytes_inj (by rw [hun, hpg])
                subst hue
                have HRC := Lib.hid hRc
                clear hRc hun HUD
                go_wp2
                go_returns
                exact ⟨rfl, HRC.out.put 2 (.int .i64 2), (Gb.of HB.out).set (Or.inl rfl) _⟩
              · obtain ⟨n, hn⟩ : ∃ n, u.size = n + 1 := ⟨u.size - 1, by omega⟩
                have hnlt : n < u.size := by omega
                have hp := pk_bd u n
                have hpi := (pk_in hnlt).symm
                have hnz : (u.size : Int) - 1 = (n : Int) := by omega
                obtain ⟨p, hpe⟩ : ∃ p, pk u n = p := ⟨_, rfl⟩
                have HP := Lib.hid hpe
                rw [hpe] at hp hpi
                have h1 := fun w => rb_bl p w hp.1 hp.2
                clear hpe
                cases hbl : bBl p
                · have hun : u.data.toList = pgT x := by rw [← HUD.out, dR_no hn (by rw [HP.out]; exact hbl)]
                  rw [hbl] at h1
                  have H1 := Lib.hid h1
                  clear h1 hbl
                  have hRc := HS.out.kept HB.out
                  have c2 := hRc.c2
                  have fS := fun i => Own.frozen hRc i
                  have lS := hRc.lt
                  have hue : u = ⟨#[113, 117, 111, 116, 101]⟩ := bytes_inj (by rw [hun, hpg])
                  subst hue
                  have HRC := Lib.hid hRc
                  clear hRc hun HUD
                  go_wp2_with (first | (go_at_call 52; (with_reducible refine (H1.out _).mono ?_); rintro e w' ⟨rfl, rfl⟩))
                  go_returns
                  exact ⟨rfl, HRC.out.put 2 (.int .i64 2), (Gb.of HB.out).set (Or.inl rfl) _⟩
                · rw [hbl] at h1
                  have H1 := Lib.hid h1
                  have HN := Lib.hid (show dR (u.extract 0 n).data.toList = pgT x by rw [← HUD.out]; exact dR_yes hn (by rw [HP.out]; exact hbl))
                  clear h1 hbl
                  go_wp2_with (first | (go_at_call 52; (with_reducible refine (H1.out _).mono ?_); rintro e w' ⟨rfl, rfl⟩))
                  go_round
                  case rel => exact ⟨u.extract 0 n, by rw [ByteArray.size_extract]; omega, HN.out, rfl⟩
                  case measure => show (u.extract 0 n).size < u.size; rw [ByteArray.size_extract]; omega
          · rw [hbl] at h1
            have H1 := Lib.hid h1
            have HN := Lib.hid (show dL (z.extract 1 z.size).data.toList = dL y.data.toList by rw [← HZD.out]; exact dL_yes hz0 (by rw [HP.out]; exact hbl))
            clear h1 hbl
            go_wp2_with (first | (go_at_call 52; (with_reducible refine (H1.out _).mono ?_); rintro e w' ⟨rfl, rfl⟩))
            go_round
            case rel => exact ⟨z.extract 1 z.size, by rw [ByteArray.size_extract]; omega, HN.out, rfl⟩
            case measure => show (z.extract 1 z.size).size < z.size; rw [ByteArray.size_extract]; omega
        · have hz1 : z.size = 0 := by omega
          have HDD := Lib.hid (show dR z.data.toList = pgT x by
            have hzn : z.data.toList = [] := List.length_eq_zero_iff.1 (by rw [Array.length_toList]; exact hz1)
            rw [← HYD.out, ← HZD.out, hzn]; rfl)
          go_wp2
          go_loop [4] (fun v4 => ∃ u : ByteArray, u.size ≤ y.size ∧ dR u.data.toList = pgT x ∧ v4 = .string u) (fun v4 => match v4 with | .string u => u.size | _ => 0)
          case atStart => exact ⟨z, hz, HDD.out, rfl⟩
          case round =>
            obtain ⟨u, hu, hud, rfl⟩ := hrel
            have HUD := Lib.hid hud
            clear hud HZD HDD
            rcases Nat.eq_zero_or_pos u.size with hu0 | hu0
            · have hun : u.data.toList = pgT x := by
                have hzn : u.data.toList = [] := List.length_eq_zero_iff.1 (by rw [Array.length_toList]; exact hu0)
                rw [← HUD.out, hzn]; rfl
              have hRc := HS.out.kept HB.out
              have c2 := hRc.c2
              have fS := fun i => Own.frozen hRc i
              have lS := hRc.lt
              have hue : u = ⟨#[113, 117, 111, 116, 101]⟩ := bytes_inj (by rw [hun, hpg])
              subst hue
              have HRC := Lib.hid hRc
              clear hRc hun HUD
              go_wp2
              go_returns
              exact ⟨rfl, HRC.out.put 2 (.int .i64 2), (Gb.of HB.out).set (Or.inl rfl) _⟩
            · obtain ⟨n, hn⟩ : ∃ n, u.size = n + 1 := ⟨u.size - 1, by omega⟩
              have hnlt : n < u.size := by omega
              have hp := pk_bd u n
              have hpi := (pk_in hnlt).symm
              have hnz : (u.size : Int) - 1 = (n : Int) := by omega
              obtain ⟨p, hpe⟩ : ∃ p, pk u n = p := ⟨_, rfl⟩
              have HP := Lib.hid hpe
              rw [hpe] at hp hpi
              have h1 := fun w => rb_bl p w hp.1 hp.2
              clear hpe
              cases hbl : bBl p
              · have hun : u.data.toList = pgT x := by rw [← HUD.out, dR_no hn (by rw [HP.out]; exact hbl)]
                rw [hbl] at h1
                have H1 := Lib.hid h1
                clear h1 hbl
                have hRc := HS.out.kept HB.out
                have c2 := hRc.c2
                have fS := fun i => Own.frozen hRc i
                have lS := hRc.lt
                have hue : u = ⟨#[113, 117, 111, 116, 101]⟩ := bytes_inj (by rw [hun, hpg])
                subst hue
                have HRC := Lib.hid hRc
                clear hRc hun HUD
                go_wp2_with (first | (go_at_call 52; (with_reducible refine (H1.out _).mono ?_); rintro e w' ⟨rfl, rfl⟩))
                go_returns
                exact ⟨rfl, HRC.out.put 2 (.int .i64 2), (Gb.of HB.out).set (Or.inl rfl) _⟩
              · rw [hbl] at h1
                have H1 := Lib.hid h1
                have HN := Lib.hid (show dR (u.extract 0 n).data.toList = pgT x by rw [← HUD.out]; exact dR_yes hn (by rw [HP.out]; exact hbl))
                clear h1 hbl
                go_wp2_with (first | (go_at_call 52; (with_reducible refine (H1.out _).mono ?_); rintro e w' ⟨rfl, rfl⟩))
                go_round
                case rel => exact ⟨u.extract 0 n, by rw [ByteArray.size_extract]; omega, HN.out, rfl⟩
                case measure => show (u.extract 0 n).size < u.size; rw [ByteArray.size_extract]; omega
set_option maxRecDepth 100000 in
set_option maxHeartbeats 4000000 in
theorem rreg_n (S : Nat) (t x : ByteArray) (a r : Int) (v : Value) (e b : Int) (w : World) (hS : Rc w S t a r v e b) (hx : x.size ≤ 100000) (n0 : pgT x ≠ [117, 112, 112, 101, 114]) (n1 : pgT x ≠ [112, 111, 105, 110, 116]) (n2 : pgT x ≠ [113, 117, 111, 116, 101]) :
    Calls Tryz.prog 94 #[.pointer (some ⟨S, 0, none⟩), .string x] w fun y w' => y = .returned (.tuple #[]) ∧ Rc w' S t a r v e b ∧ Gb S w w' := by
  have hlt := hS.lt
  have HS := Lib.hid hS
  have HPG := Lib.hid (pg_ref x)
  clear hS
  go_enter Tryz.func94, Tryz.ntmps94
  go_wp2
  go_loopw [4, 5] (fun v4 v5 wr => ∃ k : Nat, k ≤ x.size ∧ v4 = .string ⟨(Lib.toLowerA (List.take k x.data.toList)).toArray⟩ ∧ v5 = .int .i64 k ∧ Below w.heap.size w wr) (fun _ v5 _ => x.size - (intOf v5).toNat)
  case atStart => exact ⟨0, Nat.zero_le _, rfl, rfl, Below.refl _ w⟩
  case round =>
    obtain ⟨k, hk, rfl, rfl, hb⟩ := hrel
    have hwz := hb.size
    have HB := Lib.hid hb
    have hzl : (Lib.toLowerA (List.take k x.data.toList)).length ≤ k := by unfold Lib.toLowerA; rw [List.length_map, List.length_take]; omega
    clear hb
    by_cases hkx : k < x.size
    · have hp := pk_bd x k
      have hpi := (pk_in hkx).symm
      obtain ⟨y, hy⟩ : ∃ y, (⟨(Lib.toLowerA (List.take k x.data.toList)).toArray⟩ : ByteArray) = y := ⟨_, rfl⟩
      have hys : y.size ≤ 200000 := by rw [← hy]; show (Lib.toLowerA (List.take k x.data.toList)).toArray.size ≤ _; rw [List.size_toArray]; omega
      have HN := Lib.hid (show (⟨(Lib.toLowerA (List.take (k + 1) x.data.toList)).toArray⟩ : ByteArray) = y ++ ⟨#[cu (loA (pk x k))]⟩ by rw [← hy, app_one, lw_succ hkx])
      rw [hy]
      obtain ⟨p, hpe⟩ : ∃ p, pk x k = p := ⟨_, rfl⟩
      rw [hpe] at hp hpi HN
      have hrb := lo_bd hp.1 hp.2
      have H9 := Lib.hid (fun w => rb_lo p w hp.1 hp.2)
      have HCV := fun W => conv_one (loA p) hrb.1 hrb.2 W
      obtain ⟨g, hg⟩ : ∃ g, loA p = g := ⟨_, rfl⟩
      rw [hg] at H9 HCV HN
      clear hy hpe hg hzl
      go_wp2_with (first | (go_at_call 69; (with_reducible refine (H9.out _).mono ?_); rintro e w' ⟨rfl, rfl⟩))
      go_roundw
      case rel => exact ⟨k + 1, hkx, by rw [HN.out], by go_num, HB.out.alloc hwz _⟩
      case measure => simp [intOf]; omega
    · have hke : k = x.size := by omega
      subst hke
      obtain ⟨y, hy⟩ : ∃ y, (⟨(Lib.toLowerA (List.take x.size x.data.toList)).toArray⟩ : ByteArray) = y := ⟨_, rfl⟩
      have hyd : dR (dL y.data.toList) = pgT x := by
        rw [← HPG.out, ← hy, List.take_of_length_le (by rw [Array.length_toList]; exact Nat.le_refl _)]
      have hys : y.size ≤ 100000 := by rw [← hy]; show (Lib.toLowerA (List.take x.size x.data.toList)).toArray.size ≤ _; rw [List.size_toArray]; omega
      rw [hy]
      have HYD := Lib.hid hyd
      clear hy hyd hzl
      go_wp2
      go_loop [4] (fun v4 => ∃ z : ByteArray, z.size ≤ y.size ∧ dL z.data.toList = dL y.data.toList ∧ v4 = .string z) (fun v4 => match v4 with | .string z => z.size | _ => 0)
      case atStart => exact ⟨y, Nat.le_refl _, rfl, rfl⟩
      case round =>
        obtain ⟨z, hz, hzd, rfl⟩ := hrel
        have HZD := Lib.hid hzd
        clear hzd
        by_cases hz0 : 0 < z.size
        · have hp := pk_bd z 0
          have hpi := (pk_in hz0).symm
          obtain ⟨p, hpe⟩ : ∃ p, pk z 0 = p := ⟨_, rfl⟩
          have HP := Lib.hid hpe
          rw [hpe] at hp hpi
          have h1 := fun w => rb_bl p w hp.1 hp.2
          clear hpe
          cases hbl : bBl p
          · have HDD := Lib.hid (show dR z.data.toList = pgT x by rw [← HYD.out, ← HZD.out, dL_no hz0 (by rw [HP.out]; exact hbl)])
            rw [hbl] at h1
            have H1 := Lib.hid h1
            clear h1 hbl
            go_wp2_with (first | (go_at_call 52; (with_reducible refine (H1.out _).mono ?_); rintro e w' ⟨rfl, rfl⟩))
            go_loop [4] (fun v4 => ∃ u : ByteArray, u.size ≤ y.size ∧ dR u.data.toList = pgT x ∧ v4 = .string u) (fun v4 => match v4 with | .string u => u.size | _ => 0)
            case atStart => exact ⟨z, hz, HDD.out, rfl⟩
            case round =>
              obtain ⟨u, hu, hud, rfl⟩ := hrel
              have HUD := Lib.hid hud
              clear hud HZD HDD
              rcases Nat.eq_zero_or_pos u.size with hu0 | hu0
              · have hun : u.data.toList = pgT x := by
                  have hzn : u.data.toList = [] := List.length_eq_zero_iff.1 (by rw [Array.length_toList]; exact hu0)
                  rw [← HUD.out, hzn]; rfl
                have hRc := HS.out.kept HB.out
                have c2 := hRc.c2
                have fS := fun i => Own.frozen hRc i
                have lS := hRc.lt
                have k0 : (u.toList == [117, 112, 112, 101, 114]) = false := toL_ne (c := [117, 112, 112, 101, 114]) (fun e => n0 (by rw [← hun, e]))
                have k1 : (u.toList == [112, 111, 105, 110, 116]) = false := toL_ne (c := [112, 111, 105, 110, 116]) (fun e => n1 (by rw [← hun, e]))
                have k2 : (u.toList == [113, 117, 111, 116, 101]) = false := toL_ne (c := [113, 117, 111, 116, 101]) (fun e => n2 (by rw [← hun, e]))
                have HRC := Lib.hid hRc
                clear hRc hun HUD
                go_wp2
                go_returns
                exact ⟨rfl, HRC.out, Gb.of HB.out⟩
              · obtain ⟨n, hn⟩ : ∃ n, u.size = n + 1 := ⟨u.size - 1, by omega⟩
                have hnlt : n < u.size := by omega
                have hp := pk_bd u n
                have hpi := (pk_in hnlt).symm
                have hnz : (u.size : Int) - 1 = (n : Int) := by omega
                obtain ⟨p, hpe⟩ : ∃ p, pk u n = p := ⟨_, rfl⟩
                have HP := Lib.hid hpe
                rw [hpe] at hp hpi
                have h1 := fun w => rb_bl p w hp.1 hp.2
                clear hpe
                cases hbl : bBl p
                · have hun : u.data.toList = pgT x := by rw [← HUD.out, dR_no hn (by rw [HP.out]; exact hbl)]
                  rw [hbl] at h1
                  have H1 := Lib.hid h1
                  clear h1 hbl
                  have hRc := HS.out.kept HB.out
                  have c2 := hRc.c2
                  have fS := fun i => Own.frozen hRc i
                  have lS := hRc.lt
                  have k0 : (u.toList == [117, 112, 112, 101, 114]) = false := toL_ne (c := [117, 112, 112, 101, 114]) (fun e => n0 (by rw [← hun, e]))
                  have k1 : (u.toList == [112, 111, 105, 110, 116]) = false := toL_ne (c := [112, 111, 105, 110, 116]) (fun e => n1 (by rw [← hun, e]))
                  have k2 : (u.toList == [113, 117, 111, 116, 101]) = false := toL_ne (c := [113, 117, 111, 116, 101]) (fun e => n2 (by rw [← hun, e]))
                  have HRC := Lib.hid hRc
                  clear hRc hun HUD
                  go_wp2_with (first | (go_at_call 52; (with_reducible refine (H1.out _).mono ?_); rintro e w' ⟨rfl, rfl⟩))
                  go_returns
                  exact ⟨rfl, HRC.out, Gb.of HB.out⟩
                · rw [hbl] at h1
                  have H1 := Lib.hid h1
                  have HN := Lib.hid (show dR (u.extract 0 n).data.toList = pgT x by rw [← HUD.out]; exact dR_yes hn (by rw [HP.out]; exact hbl))
                  clear h1 hbl
                  go_wp2_with (first | (go_at_call 52; (with_reducible refine (H1.out _).mono ?_); rintro e w' ⟨rfl, rfl⟩))
                  go_round
                  case rel => exact ⟨u.extract 0 n, by rw [ByteArray.size_extract]; omega, HN.out, rfl⟩
                  case measure => show (u.extract 0 n).size < u.size; rw [ByteArray.size_extract]; omega
          · rw [hbl] at h1
            have H1 := Lib.hid h1
            have HN := Lib.hid (show dL (z.extract 1 z.size).data.toList = dL y.data.toList by rw [← HZD.out]; exact dL_yes hz0 (by rw [HP.out]; exact hbl))
            clear h1 hbl
            go_wp2_with (first | (go_at_call 52; (with_reducible refine (H1.out _).mono ?_); rintro e w' ⟨rfl, rfl⟩))
            go_round
            case rel => exact ⟨z.extract 1 z.size, by rw [ByteArray.size_extract]; omega, HN.out, rfl⟩
            case measure => show (z.extract 1 z.size).size < z.size; rw [ByteArray.size_extract]; omega
        · have hz1 : z.size = 0 := by omega
          have HDD := Lib.hid (show dR z.data.toList = pgT x by
            have hzn : z.data.toList = [] := List.length_eq_zero_iff.1 (by rw [Array.length_toList]; exact hz1)
            rw [← HYD.out, ← HZD.out, hzn]; rfl)
          go_wp2
          go_loop [4] (fun v4 => ∃ u : ByteArray, u.size ≤ y.size ∧ dR u.data.toList = pgT x ∧ v4 = .string u) (fun v4 => match v4 with | .string u => u.size | _ => 0)
          case atStart => exact ⟨z, hz, HDD.out, rfl⟩
          case round =>
            obtain ⟨u, hu, hud, rfl⟩ := hrel
            have HUD := Lib.hid hud
            clear hud HZD HDD
            rcases Nat.eq_zero_or_pos u.size with hu0 | hu0
            · have hun : u.data.toList = pgT x := by
                have hzn : u.data.toList = [] := List.length_eq_zero_iff.1 (by rw [Array.length_toList]; exact hu0)
                rw [← HUD.out, hzn]; rfl
              have hRc := HS.out.kept HB.out
              have c2 := hRc.c2
              have fS := fun i => Own.frozen hRc i
              have lS := hRc.lt
              have k0 : (u.toList == [117, 112, 112, 101, 114]) = false := toL_ne (c := [117, 112, 112, 101, 114]) (fun e => n0 (by rw [← hun, e]))
              have k1 : (u.toList == [112, 111, 105, 110, 116]) = false := toL_ne (c := [112, 111, 105, 110, 116]) (fun e => n1 (by rw [← hun, e]))
              have k2 : (u.toList == [113, 117, 111, 116, 101]) = false := toL_ne (c := [113, 117, 111, 116, 101]) (fun e => n2 (by rw [← hun, e]))
              have HRC := Lib.hid hRc
              clear hRc hun HUD
              go_wp2
              go_returns
              exact ⟨rfl, HRC.out, Gb.of HB.out⟩
            · obtain ⟨n, hn⟩ : ∃ n, u.size = n + 1 := ⟨u.size - 1, by omega⟩
              have hnlt : n < u.size := by omega
              have hp := pk_bd u n
              have hpi := (pk_in hnlt).symm
              have hnz : (u.size : Int) - 1 = (n : Int) := by omega
              obtain ⟨p, hpe⟩ : ∃ p, pk u n = p := ⟨_, rfl⟩
              have HP := Lib.hid hpe
              rw [hpe] at hp hpi
              have h1 := fun w => rb_bl p w hp.1 hp.2
              clear hpe
              cases hbl : bBl p
              · have hun : u.data.toList = pgT x := by rw [← HUD.out, dR_no hn (by rw [HP.out]; exact hbl)]
                rw [hbl] at h1
                have H1 := Lib.hid h1
                clear h1 hbl
                have hRc := HS.out.kept HB.out
                have c2 := hRc.c2
                have fS := fun i => Own.frozen hRc i
                have lS := hRc.lt
                have k0 : (u.toList == [117, 112, 112, 101, 114]) = false := toL_ne (c := [117, 112, 112, 101, 114]) (fun e => n0 (by rw [← hun, e]))
                have k1 : (u.toList == [112, 111, 105, 110, 116]) = false := toL_ne (c := [112, 111, 105, 110, 116]) (fun e => n1 (by rw [← hun, e]))
                have k2 : (u.toList == [113, 117, 111, 116, 101]) = false := toL_ne (c := [113, 117, 111, 116, 101]) (fun e => n2 (by rw [← hun, e]))
                have HRC := Lib.hid hRc
                clear hRc hun HUD
                go_wp2_with (first | (go_at_call 52; (with_reducible refine (H1.out _).mono ?_); rintro e w' ⟨rfl, rfl⟩))
                go_returns
                exact ⟨rfl, HRC.out, Gb.of HB.out⟩
              · rw [hbl] at h1
                have H1 := Lib.hid h1
                have HN := Lib.hid (show dR (u.extract 0 n).data.toList = pgT x by rw [← HUD.out]; exact dR_yes hn (by rw [HP.out]; exact hbl))
                clear h1 hbl
                go_wp2_with (first | (go_at_call 52; (with_reducible refine (H1.out _).mono ?_); rintro e w' ⟨rfl, rfl⟩))
                go_round
                case rel => exact ⟨u.extract 0 n, by rw [ByteArray.size_extract]; omega, HN.out, rfl⟩
                case measure => show (u.extract 0 n).size < u.size; rw [ByteArray.size_extract]; omega
theorem rregime_any (S : Nat) (t x : ByteArray) (a r : Int) (v : Value) (e b : Int) (w : World) (hS : Rc w S t a r v e b) (hx : x.size ≤ 100000) :
    Calls Tryz.prog 94 #[.pointer (some ⟨S, 0, none⟩), .string x] w fun y w' => y = .returned (.tuple #[]) ∧ Rc w' S t a (pgR r x) v e b ∧ Gb S w w' := by
  unfold pgR
  by_cases h0 : pgT x = [117, 112, 112, 101, 114]
  · rw [if_pos h0]; exact rreg_u S t x a r v e b w hS hx h0
  · rw [if_neg h0]
    by_cases h1 : pgT x = [112, 111, 105, 110, 116]
    · rw [if_pos h1]; exact rreg_p S t x a r v e b w hS hx h1
    · rw [if_neg h1]
      by_cases h2 : pgT x = [113, 117, 111, 116, 101]
      · rw [if_pos h2]; exact rreg_q S t x a r v e b w hS hx h2
      · rw [if_neg h2]; exact rreg_n S t x a r v e b w hS hx h0 h1 h2
end Go.Proofs.YtbnldpcbdeeflaaGreatDoor
