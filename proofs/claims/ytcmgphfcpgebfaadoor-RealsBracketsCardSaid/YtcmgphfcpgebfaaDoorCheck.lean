/- The program's check of a size, a direction and operands. Conditions: the tables hold what their initialisers lay; the operands lie in a block. -/
import Derived.Test.YtcmgphfcpgebfaaDoorValid
namespace Go.Proofs.YtcmgphfcpgebfaaDoor
open Go.ChangeShapes Go.WideShapes Go.ChangeAt Go.RowKit
attribute [local go_sem ↓] Go.wp_at_zero Go.wp_at_succ

/-- The error of an operation's size or direction, or else of its operands. -/
def ckO (s : Int) (ops : List (Int × Int)) : Int := if (ops.all fun x => vld s x.1 x.2) = true then 0 else 11
theorem ckO_no {s : Int} {ops : List (Int × Int)} {k : Nat} {m e : Int} (hx : ops[k]? = some (m, e)) (h : vld s m e = false) : ckO s ops = 11 := by
  unfold ckO
  rw [if_neg]
  intro ha
  have := List.all_eq_true.1 ha (m, e) (List.mem_of_getElem? hx)
  simp only at this
  rw [h] at this
  cases this
theorem all_next {s : Int} {ops : List (Int × Int)} {k : Nat} {m e : Int} (hx : ops[k]? = some (m, e)) (h : vld s m e = true) (ha : ((ops.take k).all fun x => vld s x.1 x.2) = true) : ((ops.take (k + 1)).all fun x => vld s x.1 x.2) = true := by
  have hl : k < ops.length := by
    rcases Nat.lt_or_ge k ops.length with h | h
    · exact h
    · rw [List.getElem?_eq_none h] at hx; cases hx
  rw [List.take_succ_eq_append_getElem hl, List.all_append, ha, Bool.true_and]
  rw [List.getElem?_eq_getElem hl] at hx
  rw [Option.some.inj hx]
  simp [h]
def ckR (s how : Int) (ops : List (Int × Int)) : Int := if (isSz s && isDir how) = true then ckO s ops else 1

theorem check_bad (s how : Int) (v : Value) (w : World) (ht : Tab w) (h : (isSz s && isDir how) = false) : Calls Tryd.prog 50 #[.int .i64 s, .int .i64 how, v] w fun e w' => e = .returned (.int .i64 1) ∧ Kept w w' := by
  have hlt := ht.lt
  have hlt0 := ht.lt0
  have hD := fun w ht => Digits_any s w ht
  unfold dz sx at hD
  cases h1 : isSz s
  · rw [h1] at hD
    simp only [Bool.false_eq_true, if_false] at hD
    have HD := Lib.hid hD
    clear hD h h1
    go_enter Tryd.func50, Tryd.ntmps50
    go_wp2_with (first | (go_at_call 12; (with_reducible refine (HD.out _ (by repeat' (first | (with_reducible assumption) | (with_reducible refine Tab.alloc ?_ _) | (with_reducible refine Tab.drew ?_) | (with_reducible refine Tab.drewN ?_ _) | (with_reducible refine Tab.setCell ?_ ?_ ?_ _) | omega | (simp; done) | (simp; omega)))).mono ?_); rintro e w' ⟨rfl, rfl⟩))
    go_returns
    exact ⟨rfl, (by repeat' (first | (with_reducible assumption) | (with_reducible exact Kept.refl ht) | (with_reducible refine Kept.alloc ?_ _) | (with_reducible refine Kept.drew ?_) | (with_reducible refine Kept.drewN ?_ _) | (with_reducible refine Kept.setCell ?_ ?_ _ ?_ ?_) | (with_reducible refine Kept.trans ?_ (by assumption)) | omega | (simp; done) | (simp; omega)))⟩
  · rw [h1] at hD h
    rw [Bool.true_and] at h
    simp only [if_true] at hD
    have HD := Lib.hid hD
    clear hD h1
    go_enter Tryd.func50, Tryd.ntmps50
    go_wp2_with (first | (go_at_call 12; (with_reducible refine (HD.out _ (by repeat' (first | (with_reducible assumption) | (with_reducible refine Tab.alloc ?_ _) | (with_reducible refine Tab.drew ?_) | (with_reducible refine Tab.drewN ?_ _) | (with_reducible refine Tab.setCell ?_ ?_ ?_ _) | omega | (simp; done) | (simp; omega)))).mono ?_); rintro e w' ⟨rfl, rfl⟩) | (go_at_call 77; (with_reducible refine (isDirection_any how _).mono ?_); rintro e w' ⟨rfl, rfl⟩))
    go_returns
    exact ⟨rfl, (by repeat' (first | (with_reducible assumption) | (with_reducible exact Kept.refl ht) | (with_reducible refine Kept.alloc ?_ _) | (with_reducible refine Kept.drew ?_) | (with_reducible refine Kept.drewN ?_ _) | (with_reducible refine Kept.setCell ?_ ?_ _ ?_ ?_) | (with_reducible refine Kept.trans ?_ (by assumption)) | omega | (simp; done) | (simp; omega)))⟩

/-- What holds at each round's head. -/
def CkRel (s : Int) (ops : List (Int × Int)) (w : World) (v : Value) (wr : World) : Prop := ∃ k : Nat, v = .int .i64 (k : Int) ∧ k ≤ ops.length ∧ ((ops.take k).all fun x => vld s x.1 x.2) = true ∧ Kept w wr

set_option maxHeartbeats 2000000 in
theorem check_good (s how : Int) (ops : List (Int × Int)) (b cap : Nat) (w : World) (ht : Tab w) (h : (isSz s && isDir how) = true) (hb : b < w.heap.size) (hl : ops.length ≤ 1000)
    (hc : ∀ k x, ops[k]? = some x → w.cell? ⟨b, 2 * k, none⟩ = some (.int .i64 x.1) ∧ w.cell? ⟨b, 2 * k + 1, none⟩ = some (.int .i64 x.2) ∧ -9223372036854775808 ≤ x.1 ∧ x.1 ≤ 9223372036854775807) :
    Calls Tryd.prog 50 #[.int .i64 s, .int .i64 how, .slice (some ⟨b, 0, none⟩) ops.length cap] w fun e w' => e = .returned (.int .i64 (ckO s ops)) ∧ Kept w w' := by
  have hlt := ht.lt
  have hlt0 := ht.lt0
  rw [Bool.and_eq_true] at h
  obtain ⟨h1, h2⟩ := h
  have hD := fun w ht => Digits_any s w ht
  unfold dz sx at hD
  rw [h1] at hD
  simp only [if_true] at hD
  have HD := Lib.hid hD
  have HC := Lib.hid hc
  clear hD hc h1
  go_enter Tryd.func50, Tryd.ntmps50
  go_wp2_with (first | (go_at_call 12; (with_reducible refine (HD.out _ (by repeat' (first | (with_reducible assumption) | (with_reducible refine Tab.alloc ?_ _) | (with_reducible refine Tab.drew ?_) | (with_reducible refine Tab.drewN ?_ _) | (with_reducible refine Tab.setCell ?_ ?_ ?_ _) | omega | (simp; done) | (simp; omega)))).mono ?_); rintro e w' ⟨rfl, rfl⟩) | (go_at_call 77; (with_reducible refine (isDirection_any how _).mono ?_); rintro e w' ⟨rfl, rfl⟩))
  go_loopw [25] (CkRel s ops w) (fun v _ => ops.length - (intOf v).toNat)
  case atStart => exact ⟨0, rfl, Nat.zero_le _, by simp, Kept.refl ht⟩
  case round =>
    obtain ⟨k, rfl, hk, ha, hK⟩ := hrel
    have ht' := hK.1
    have hg := ht'.lt
    have hg0 := ht'.lt0
    have hz := hK.2.size
    have HA := Lib.hid ha
    clear ha
    by_cases hkl : k < ops.length
    · obtain ⟨x, hx⟩ : ∃ x, ops[k]? = some x := ⟨_, List.getElem?_eq_getElem hkl⟩
      obtain ⟨a1, a2, a3, a4⟩ := HC.out k x hx
      obtain ⟨m, e⟩ := x
      have c1 : wr.cell? ⟨b, k * 2, none⟩ = some (.int .i64 m) := by rw [Nat.mul_comm]; exact (hK.2.cell hb).trans a1
      have c2 : wr.cell? ⟨b, k * 2 + 1, none⟩ = some (.int .i64 e) := by rw [Nat.mul_comm]; exact (hK.2.cell hb).trans a2
      have hbw : b < wr.heap.size := by omega
      have HV := Lib.hid (fun w ht => Valid_any s m e w ht a3 a4)
      have HX := Lib.hid hx
      clear a1 a2 a3 a4 hx
      cases hv : vld s m e
      · have HO := Lib.hid (ckO_no HX.out hv)
        go_wp2_with (first | (go_at_call 14; (with_reducible refine (HV.out _ (by repeat' (first | (with_reducible assumption) | (with_reducible refine Tab.alloc ?_ _) | (with_reducible refine Tab.drew ?_) | (with_reducible refine Tab.drewN ?_ _) | (with_reducible refine Tab.setCell ?_ ?_ ?_ _) | omega | (simp; done) | (simp; omega)))).mono ?_); rintro e w1 ⟨rfl, hk1⟩; obtain ⟨hc1, hf1⟩ := bcell hk1.2; have ht1 := hk1.1; have hz1 := hk1.2.size; (try simp only [World.size_alloc] at hz1); (try simp only [sz_drew] at hz1); (try simp only [sz_drewN] at hz1); (try simp only [World.size_alloc] at hz1); (try simp only [sz_drew] at hc1 hf1); (try simp only [sz_drewN] at hc1 hf1); (try have hw1 : w.heap.size < w1.heap.size := by omega); (try have hv1 : w.heap.size + 1 < w1.heap.size := by omega); (try have hu1 : w.heap.size + 2 < w1.heap.size := by omega)))
        go_returns
        exact ⟨by rw [HO.out]; rfl, (by repeat' (first | (with_reducible assumption) | (with_reducible exact Kept.refl ht) | (with_reducible refine Kept.alloc ?_ _) | (with_reducible refine Kept.drew ?_) | (with_reducible refine Kept.drewN ?_ _) | (with_reducible refine Kept.setCell ?_ ?_ _ ?_ ?_) | (with_reducible refine Kept.trans ?_ (by assumption)) | omega | (simp; done) | (simp; omega)))⟩
      · have HN := Lib.hid (all_next HX.out hv HA.out)
        go_wp2_with (first | (go_at_call 14; (with_reducible refine (HV.out _ (by repeat' (first | (with_reducible assumption) | (with_reducible refine Tab.alloc ?_ _) | (with_reducible refine Tab.drew ?_) | (with_reducible refine Tab.drewN ?_ _) | (with_reducible refine Tab.setCell ?_ ?_ ?_ _) | omega | (simp; done) | (simp; omega)))).mono ?_); rintro e w1 ⟨rfl, hk1⟩; obtain ⟨hc1, hf1⟩ := bcell hk1.2; have ht1 := hk1.1; have hz1 := hk1.2.size; (try simp only [World.size_alloc] at hz1); (try simp only [sz_drew] at hz1); (try simp only [sz_drewN] at hz1); (try simp only [World.size_alloc] at hz1); (try simp only [sz_drew] at hc1 hf1); (try simp only [sz_drewN] at hc1 hf1); (try have hw1 : w.heap.size < w1.heap.size := by omega); (try have hv1 : w.heap.size + 1 < w1.heap.size := by omega); (try have hu1 : w.heap.size + 2 < w1.heap.size := by omega)))
        go_roundw
        case rel => exact ⟨k + 1, by go_num, by omega, HN.out, (by repeat' (first | (with_reducible assumption) | (with_reducible exact Kept.refl ht) | (with_reducible refine Kept.alloc ?_ _) | (with_reducible refine Kept.drew ?_) | (with_reducible refine Kept.drewN ?_ _) | (with_reducible refine Kept.setCell ?_ ?_ _ ?_ ?_) | (with_reducible refine Kept.trans ?_ (by assumption)) | omega | (simp; done) | (simp; omega)))⟩
        case measure => simp [intOf]; omega
    · have HO : Hid (ckO s ops = 0) := Lib.hid (by
        have := HA.out
        rw [List.take_of_length_le (by omega)] at this
        unfold ckO
        rw [if_pos this])
      go_wp2_with fail
      go_returns
      exact ⟨by rw [HO.out]; rfl, (by repeat' (first | (with_reducible assumption) | (with_reducible exact Kept.refl ht) | (with_reducible refine Kept.alloc ?_ _) | (with_reducible refine Kept.drew ?_) | (with_reducible refine Kept.drewN ?_ _) | (with_reducible refine Kept.setCell ?_ ?_ _ ?_ ?_) | (with_reducible refine Kept.trans ?_ (by assumption)) | omega | (simp; done) | (simp; omega)))⟩
theorem vld_facts {s m e : Int} (h : vld s m e = true) : (s = -1 ∨ s = 0 ∨ s = 1) ∧ mag m < 1000000000000000000 ∧ -400 ≤ e ∧ e ≤ 418 ∧ -1000000000000000000 < m ∧ m < 1000000000000000000 := by
  unfold vld at h
  rw [Bool.and_eq_true] at h
  have hs := of_decide_eq_true h.1
  have hp := pr_pos s
  refine ⟨hs, ?_⟩
  by_cases hm : m = 0
  · subst hm
    have h2 := h.2
    rw [if_pos rfl] at h2
    have := of_decide_eq_true h2
    unfold mag
    omega
  · have h2 := h.2
    rw [if_neg hm] at h2
    obtain ⟨a, b, c, d⟩ := of_decide_eq_true h2
    have hl := (dg_iff (mag m) 18).1 (by omega)
    have e18 : (10 : Nat) ^ 18 = 1000000000000000000 := by decide
    rw [e18] at hl
    unfold mag at hl
    refine ⟨hl, c, by omega, by omega, by omega⟩
theorem ck_facts {s how a e b f : Int} (h : ckR s how [(a, e), (b, f)] = 0) : isDir how = true ∧ vld s a e = true ∧ vld s b f = true := by
  unfold ckR at h
  cases hg : (isSz s && isDir how)
  · rw [hg] at h; simp at h
  · rw [hg] at h
    simp only [if_true] at h
    rw [Bool.and_eq_true] at hg
    refine ⟨hg.2, ?_⟩
    unfold ckO at h
    by_cases hv : ([(a, e), (b, f)].all fun x => vld s x.1 x.2) = true
    · simpa using hv
    · rw [if_neg hv] at h; omega

theorem reals_pack {w w' : World} {a e b f : Int} (h : Inv w [(w.heap.size, 29, [.int .i64 a, .int .i64 e]), (w.heap.size + 1, 29, [.int .i64 b, .int .i64 f])] w') :
    Inv w [(w.heap.size, 29, [.int .i64 a, .int .i64 e]), (w.heap.size + 1, 29, [.int .i64 b, .int .i64 f])] w' ∧ Tab w' ∧ w'.cell? ⟨w.heap.size, 0, none⟩ = some (.int .i64 a) ∧ w'.cell? ⟨w.heap.size, 1, none⟩ = some (.int .i64 e) ∧ w'.cell? ⟨w.heap.size + 1, 0, none⟩ = some (.int .i64 b) ∧ w'.cell? ⟨w.heap.size + 1, 1, none⟩ = some (.int .i64 f) :=
  ⟨h, h.kept.1, (h.own 0 _ rfl).cell 0, (h.own 0 _ rfl).cell 1, (h.own 1 _ rfl).cell 0, (h.own 1 _ rfl).cell 1⟩

end Go.Proofs.YtcmgphfcpgebfaaDoor
