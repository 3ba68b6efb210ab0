/- What the law on turns says of results: plain mathematics. No condition. -/
import Derived.Test.YtcmgphfcpgebfaaDoorRfac
namespace Go.Proofs.YtcmgphfcpgebfaaDoor

theorem ck_comm (s how a e b f : Int) : ckR s how [(a, e), (b, f)] = ckR s how [(b, f), (a, e)] := by
  unfold ckR ckO
  simp only [List.all_cons, List.all_nil, Bool.and_true]
  rw [Bool.and_comm (vld s a e)]
theorem add_comm (s how a e b f : Int) : aRes s how a e b f = aRes s how b f a e := by
  unfold aRes
  rw [ck_comm, Int.add_comm]
theorem mul_comm (s how a e b f : Int) : mRes s how a e b f = mRes s how b f a e := by
  unfold mRes pv
  rw [ck_comm, Nat.mul_comm, Int.add_comm, bne_comm]
theorem vld_next {s a e : Int} (h : vld s a e = true) (hs : s = -1 ∨ s = 0) : vld (s + 1) a e = true := by
  unfold vld at *
  rw [Bool.and_eq_true] at h
  have hp : pr s ≤ pr (s + 1) := by rcases hs with rfl | rfl <;> decide
  have hz : isSz (s + 1) = true := by rcases hs with rfl | rfl <;> decide
  rw [hz, Bool.true_and]
  have h2 := h.2
  split at h2
  · rename_i h0; rw [if_pos h0]; exact h2
  · rename_i h0
    rw [if_neg h0]
    obtain ⟨a, b, c, d⟩ := of_decide_eq_true h2
    exact decide_eq_true ⟨a, by omega, c, by omega⟩
theorem back {s how a e M E : Int} (h : lRes s a e = ⟨M, E, 0⟩) (hd : isDir how = true) : M = a ∧ E = e ∧ -1 ≤ s ∧ s ≤ 0 ∧ tRes (s + 1) how a e = ⟨a, e, 0⟩ := by
  unfold lRes at h
  by_cases h1 : s = 1
  · rw [if_pos h1] at h
    have := congrArg Res.X h
    simp at this
  · rw [if_neg h1] at h
    have hX : (okOr (ckR s 0 [(a, e)]) ⟨a, e, 0⟩).X = 0 := by rw [h]
    obtain ⟨hc, hr⟩ := ok_ck hX
    rw [hr] at h
    obtain ⟨_, hv⟩ := ck1_facts hc
    obtain ⟨hs, _⟩ := vld_facts hv
    have hs' : s = -1 ∨ s = 0 := by omega
    have hv' := vld_next hv hs'
    have e1 := congrArg Res.M h
    have e2 := congrArg Res.E h
    simp only at e1 e2
    refine ⟨e1.symm, e2.symm, by omega, by omega, ?_⟩
    unfold tRes
    rw [if_neg (by omega), okOr_zero _ (ck1_mk (by rw [isSz_of hv', hd]; rfl) hv'), show s + 1 - 1 = s by omega]
    obtain ⟨a1, a2, a3⟩ := nM_vld how hv
    unfold nRes
    rw [a1, a2, a3]
/-- The operands are right. -/
def okT (s how a e b f : Int) : Bool := vld s a e && vld s b f && isDir how
theorem add_err {s how a e b f M E X : Int} (h : okT s how a e b f = false) (hr : aRes s how a e b f = ⟨M, E, X⟩) : (X != 0) = true := by
  unfold aRes at hr
  rcases ck_cases (c := ckR s how [(a, e), (b, f)]) with hc | hc
  · obtain ⟨h1, h2, h3⟩ := ck_facts hc
    unfold okT at h
    rw [h1, h2, h3] at h
    simp at h
  · rw [okOr_ne _ hc] at hr
    have := congrArg Res.X hr
    simp only at this
    rw [← this]
    exact hc
def turn (how : Int) : Int := if how = 1 then 2 else if how = 2 then 1 else how
theorem turn_inw (how : Int) (neg : Bool) : inw (turn how) (!neg) = inw how neg := by
  by_cases h1 : how = 1
  · subst h1; cases neg <;> decide
  · by_cases h2 : how = 2
    · subst h2; cases neg <;> decide
    · have ht : turn how = how := by unfold turn; rw [if_neg h1, if_neg h2]
      rw [ht]
      unfold inw
      simp [h1, h2]
theorem turn_zero (how : Int) : turn how = 0 ↔ how = 0 := by
  unfold turn
  repeat' split
  all_goals omega
theorem turn_dir {how : Int} (h : isDir how = true) : isDir (turn how) = true := by
  have := of_decide_eq_true h
  refine decide_eq_true ?_
  unfold turn
  repeat' split
  all_goals omega
theorem turn_res {p : Nat} {how : Int} {neg : Bool} {V : Nat} {m : Bool} : rM p (turn how) (!neg) V m = - rM p how neg V m ∧ rE p (turn how) (!neg) V m = rE p how neg V m ∧ rX p (turn how) (!neg) V m = rX p how neg V m := by
  have hg : ∀ q t, grow (turn how) (!neg) q t = grow how neg q t := fun q t => by
    unfold grow
    rw [turn_inw]
    simp only [turn_zero]
  have hr : rv p (turn how) (!neg) V m = rv p how neg V m := by unfold rv rq; rw [hg]
  unfold rM rE rX oF oV ovf fM
  rw [hr, turn_inw, sg_not]
  exact ⟨rfl, rfl, rfl⟩
theorem nRes_turn {p : Nat} {how N M E X : Int} (h : nRes p how N = ⟨M, E, X⟩) : nRes p (turn how) (-N) = ⟨-M, E, X⟩ := by
  by_cases h0 : N = 0
  · subst h0
    obtain ⟨a, b, c⟩ := zero_res p how (decide ((0 : Int) < 0))
    obtain ⟨a', b', c'⟩ := zero_res p (turn how) (decide ((0 : Int) < 0))
    unfold nRes nM nE nX at *
    rw [Int.natAbs_zero, a, b, c] at h
    rw [Int.neg_zero, Int.natAbs_zero, a', b', c']
    have e1 := congrArg Res.M h
    have e2 := congrArg Res.E h
    have e3 := congrArg Res.X h
    simp only at e1 e2 e3
    rw [← e1, ← e2, ← e3]
    rfl
  · have hn : decide (-N < 0) = !decide (N < 0) := by
      by_cases h : N < 0
      · rw [decide_eq_true h, decide_eq_false (by omega)]; rfl
      · rw [decide_eq_false h, decide_eq_true (by omega)]; rfl
    obtain ⟨a, b, c⟩ := turn_res (p := p) (how := how) (neg := decide (N < 0)) (V := N.natAbs) (m := false)
    unfold nRes nM nE nX at *
    rw [hn, Int.natAbs_neg, a, b, c]
    have e1 := congrArg Res.M h
    have e2 := congrArg Res.E h
    have e3 := congrArg Res.X h
    simp only at e1 e2 e3
    rw [e1, e2, e3]
theorem sv_minus (a e : Int) : sv (-a) e = - sv a e := by
  unfold sv
  have hm : mag (-a) = mag a := by unfold mag; omega
  rw [hm]
  by_cases h0 : a = 0
  · subst h0
    rw [show mag 0 = 0 from rfl, sc_zero, sg_zero, sg_zero]
    rfl
  · have hn : decide (-a < 0) = !decide (a < 0) := by
      by_cases h : a < 0
      · rw [decide_eq_true h, decide_eq_false (by omega)]; rfl
      · rw [decide_eq_false h, decide_eq_true (by omega)]; rfl
    rw [hn, sg_not]
theorem vld_minus (s a e : Int) : vld s (-a) e = vld s a e := by
  unfold vld
  have hm : mag (-a) = mag a := by unfold mag; omega
  have h2 : (-a = 0) ↔ a = 0 := by omega
  have h3 : (-a) % 10 ≠ 0 ↔ a % 10 ≠ 0 := by omega
  rw [hm]
  simp only [h2, h3]
theorem sub_add (s how a e b f : Int) : bRes s how a e b f = aRes s how a e (-b) f := by
  unfold bRes aRes ckR ckO
  simp only [List.all_cons, List.all_nil, Bool.and_true, vld_minus]
theorem turned {s how a e b f M E X : Int} (hk : okT s how a e b f = true) (h : aRes s how a e b f = ⟨M, E, X⟩) :
    gRes s a e = ⟨-a, e, 0⟩ ∧ gRes s b f = ⟨-b, f, 0⟩ ∧ aRes s (turn how) (-a) e (-b) f = ⟨-M, E, X⟩ ∧ (0 ≤ how ∧ how ≤ 3) ∧ (-1000000000000000000 < a ∧ a < 1000000000000000000) ∧ (-1000000000000000000 < b ∧ b < 1000000000000000000) ∧ (-1000000000000000000 < M ∧ M < 1000000000000000000) := by
  unfold okT at hk
  rw [Bool.and_eq_true, Bool.and_eq_true] at hk
  obtain ⟨⟨h1, h2⟩, h3⟩ := hk
  have hz := isSz_of h1
  have hc := ck2_mk (s := s) (how := how) (by rw [hz, h3]; rfl) h1 h2
  have hc' := ck2_mk (s := s) (how := turn how) (a := -a) (e := e) (b := -b) (f := f) (by rw [hz, turn_dir h3]; rfl) (by rw [vld_minus]; exact h1) (by rw [vld_minus]; exact h2)
  have g1 := ck1_mk (s := s) (how := 0) (a := a) (e := e) (by rw [hz]; rfl) h1
  have g2 := ck1_mk (s := s) (how := 0) (a := b) (e := f) (by rw [hz]; rfl) h2
  unfold aRes at h
  rw [okOr_zero _ hc] at h
  obtain ⟨_, _, _, _, a1, a2⟩ := vld_facts h1
  obtain ⟨_, _, _, _, b1, b2⟩ := vld_facts h2
  have hM : -1000000000000000000 < M ∧ M < 1000000000000000000 := by
    have hv := res_vld (s := s) (how := how) (neg := decide (sv a e + sv b f < 0)) (V := (sv a e + sv b f).natAbs) (m := false) hz
    have e1 := congrArg Res.M h
    unfold nRes nM at e1
    simp only at e1
    rw [e1] at hv
    obtain ⟨_, _, _, _, m1, m2⟩ := vld_facts hv
    exact ⟨m1, m2⟩
  refine ⟨by unfold gRes; rw [okOr_zero _ g1], by unfold gRes; rw [okOr_zero _ g2], ?_, of_decide_eq_true h3, ⟨a1, a2⟩, ⟨b1, b2⟩, hM⟩
  unfold aRes
  rw [okOr_zero _ hc', sv_minus, sv_minus, show - sv a e + - sv b f = -(sv a e + sv b f) by omega]
  exact nRes_turn h
end Go.Proofs.YtcmgphfcpgebfaaDoor
