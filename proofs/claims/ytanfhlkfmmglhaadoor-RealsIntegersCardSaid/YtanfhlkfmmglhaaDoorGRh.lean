/- The reference's rounding is the program's: plain mathematics. No condition. -/
import Derived.Test.YtanfhlkfmmglhaaDoorGRf9
import Derived.Test.YtanfhlkfmmglhaaDoorGRfa
import Derived.Test.YtanfhlkfmmglhaaDoorGRfb
import Derived.Test.YtanfhlkfmmglhaaDoorGRfc
import Derived.Test.YtanfhlkfmmglhaaDoorGRfd
import Derived.Test.YtanfhlkfmmglhaaDoorGRfe
import Derived.Test.YtanfhlkfmmglhaaDoorGRff
import Derived.Test.YtanfhlkfmmglhaaDoorGRfg
import Derived.Test.YtanfhlkfmmglhaaDoorGBrk
namespace Go.Proofs.YtanfhlkfmmglhaaDoor

theorem cut_tl (n j : Nat) (more : Bool) : (cutS n j more = 2 ↔ tl n more (j + 1) = 3) ∧ (cutS n j more = 1 ↔ tl n more (j + 1) = 2) ∧ (cutL n j more = true ↔ tl n more (j + 1) ≠ 0) := by
  unfold cutS cutL tl cmpN
  have e : (10 : Nat) ^ (j + 1) = 2 * (5 * 10 ^ j) := by rw [Nat.pow_succ]; omega
  have hp := p10 j
  rw [e]
  generalize n % (2 * (5 * 10 ^ j)) = r
  generalize 10 ^ j = B at *
  cases more
  · simp only [Bool.false_eq_true, and_false, if_false, and_true, Bool.or_false, decide_eq_true_eq]
    refine ⟨?_, ?_, ?_⟩ <;> (repeat' split) <;> constructor <;> omega
  · simp only [Bool.true_eq_false, and_false, if_false, and_true, Bool.or_true, true_iff]
    refine ⟨?_, ?_, ?_⟩
    · (repeat' split) <;> constructor <;> omega
    · (repeat' split) <;> constructor <;> omega
    · (repeat' split) <;> omega
theorem aw_grow {how : Int} {neg : Bool} {Q t : Nat} {S : Int} {L : Bool} (h0 : 0 ≤ how) (h3 : how ≤ 3) (a : S = 2 ↔ t = 3) (b : S = 1 ↔ t = 2) (c : L = true ↔ t ≠ 0) : awR how neg Q S L = grow how neg Q t := by
  have hl : L = decide (t ≠ 0) := by
    rw [Bool.eq_iff_iff, c, decide_eq_true_eq]
  subst hl
  have : how = 0 ∨ how = 1 ∨ how = 2 ∨ how = 3 := by omega
  rcases this with rfl | rfl | rfl | rfl
  · unfold awR grow
    rw [if_pos rfl, if_pos rfl, Bool.eq_iff_iff]
    simp only [Bool.or_eq_true, Bool.and_eq_true, decide_eq_true_eq]
    rw [a, b]
  · cases neg <;> simp [awR, grow, inw]
  · cases neg <;> simp [awR, grow, inw]
  · cases neg <;> simp [awR, grow, inw]
theorem rc_eqs {p n : Nat} {how e : Int} {neg more : Bool} (h0 : 0 ≤ how) (h3 : how ≤ 3) (hm : more = true → p < dg n) : rcE p e n = e + ((cK p n e).toNat : Int) ∧ rcR p how neg e n more = cQ p how neg n e more := by
  have hT : rT p e n = max (e + (dg n : Int) - (p : Int)) (-400) := by unfold rT; split <;> omega
  have hK : cK p n e = rT p e n - e := by unfold cK; rw [hT]
  unfold rcR rcE rcQ rcS rcL cQ
  rw [hK]
  by_cases h : e < rT p e n
  · simp only [if_pos h]
    have hj : (rT p e n - e).toNat = (rT p e n - e - 1).toNat + 1 := by omega
    refine ⟨by omega, ?_⟩
    rw [hj]
    obtain ⟨a, b, c⟩ := cut_tl n (rT p e n - e - 1).toNat more
    rw [aw_grow h0 h3 a b c]
    split <;> rfl
  · simp only [if_neg h]
    have hj : (rT p e n - e).toNat = 0 := by omega
    have hm' : more = false := by
      cases more
      · rfl
      · have := hm rfl; rw [hT] at h; omega
    subst hm'
    rw [hj, tl_zero, grow_zero]
    refine ⟨by omega, ?_⟩
    have : awR how neg n 0 false = false := by
      unfold awR
      simp
    rw [this]
    simp
/-- What the reference rounds to is what the program rounds to. -/
theorem rnd_plain {p n : Nat} {how e M X er : Int} {neg more : Bool} (hn : n ≠ 0) (he : -1100 ≤ e) (hp : 1 ≤ p) (h0 : 0 ≤ how) (h3 : how ≤ 3) (hm : more = true → p < dg n)
    (h : RndRes p how neg (rcR p how neg e n more) (rcE p e n) M X er) : M = rM p how neg (sc n e) more ∧ X = rE p how neg (sc n e) more ∧ er = rX p how neg (sc n e) more := by
  obtain ⟨e1, e2⟩ := rc_eqs (neg := neg) (e := e) h0 h3 hm
  unfold RndRes at h
  rw [e1, e2] at h
  rcases h with ⟨f, rfl, h⟩ | ⟨f, i, rfl, rfl, rfl⟩ | ⟨f, i, rfl, rfl, rfl⟩
  · obtain ⟨r1, r2, r3⟩ := round_in (how := how) (neg := neg) (m := more) hn he hp hm (by omega)
    rcases h with ⟨hz, rfl, rfl⟩ | ⟨hz, rfl, rfl⟩
    · obtain ⟨a, b⟩ := r2 hz
      exact ⟨a.symm, b.symm, r1.symm⟩
    · obtain ⟨a, b⟩ := r3 hz
      exact ⟨a.symm, b.symm, r1.symm⟩
  · obtain ⟨_, r2⟩ := round_out (how := how) (neg := neg) (m := more) hn he hp hm (by omega)
    obtain ⟨a, b, c⟩ := r2 i
    exact ⟨a.symm, b.symm, c.symm⟩
  · obtain ⟨r2, _⟩ := round_out (how := how) (neg := neg) (m := more) hn he hp hm (by omega)
    obtain ⟨a, b, c⟩ := r2 i
    exact ⟨a.symm, b.symm, c.symm⟩
end Go.Proofs.YtanfhlkfmmglhaaDoor
/- The reference's Rounded, for every exact number that is drawn. Condition: the tables hold what their initialisers lay. -/
namespace Go.Proofs.YtanfhlkfmmglhaaDoor
open Go.ChangeShapes Go.WideShapes Go.ChangeAt Go.RowKit
attribute [local go_sem ↓] Go.wp_at_zero Go.wp_at_succ

set_option maxRecDepth 100000 in
set_option maxHeartbeats 4000000 in
theorem refRnd_zero (size how p : Int) (neg : Bool) (e : Int) (v : Value) (w : World) (ht : Tab w) (h : Sl w v (ds 0)) (hp : dz size = p ∧ sx size = 0) :
    Calls Tryd.prog 38 #[.int .i64 size, .int .i64 how, .agg #[.bool neg, v, .int .i64 e, .bool false]] w fun x w' => x = .returned (.tuple #[.agg #[.int .i64 0, .int .i64 0], .int .i64 0]) ∧ Kept w w' := by
  have hlt := ht.lt
  have hlt0 := ht.lt0
  have HDG : Hid (∀ w, Calls Tryd.prog 73 #[.int .i64 size] w fun e w' => e = .returned (.tuple #[.int .i64 p, .int .i64 0]) ∧ w = w') := Lib.hid (fun w => by
    have := refDigits size w
    rw [hp.1, hp.2] at this
    exact this)
  obtain ⟨b, off, cap, rfl, hc, hm1, hb, hg⟩ := h
  rw [ds_zero] at *
  clear hc hm1 hg hp
  have hE : Hid (([] : List Int).length = 0) := Lib.hid rfl
  generalize ([] : List Int).length = z at hE ⊢
  obtain rfl := hE.out
  go_enter Tryd.func38, Tryd.ntmps38
  go_wp2_with (go_at_call 73; (with_reducible refine (HDG.out _).mono ?_); rintro e w' ⟨rfl, rfl⟩)
  have hI := Inv.two ht 53 [.bool neg, .slice (some ⟨b, off, none⟩) 0 cap, .int .i64 e, .bool false] 25 [.int .i64 0, .int .i64 0]
  have hF := hI.own 1 _ rfl
  refine bodyPost_ret (ret_own_tmp rfl hF rfl Tryd.underlying25 rfl (by kernel_rfl)) rfl ?_
  exact ⟨rfl, (by repeat' (first | (with_reducible assumption) | (with_reducible exact Kept.refl ht) | (with_reducible refine Kept.alloc ?_ _) | (with_reducible refine Kept.drew ?_) | (with_reducible refine Kept.drewN ?_ _) | (with_reducible refine Kept.setCell ?_ ?_ _ ?_ ?_) | (with_reducible refine Kept.trans ?_ (by assumption)) | omega | (simp; done) | (simp; omega)))⟩
theorem dz_pr {s : Int} (h : isSz s = true) : dz s = ((pr s : Nat) : Int) ∧ sx s = 0 := by unfold dz sx; rw [if_pos h, if_pos h]; exact ⟨rfl, rfl⟩
/-- Rounded. -/
theorem refRounded (size how : Int) (neg more : Bool) (n : Nat) (e : Int) (v : Value) (w : World) (ht : Tab w) (h : Sl w v (ds n)) (hs : isSz size = true) (hh : isDir how = true) (hn : dg n ≤ 10000) (he : -1100 ≤ e) (he' : e ≤ 20000) (hm : more = true → 18 < dg n) :
    Calls Tryd.prog 38 #[.int .i64 size, .int .i64 how, .agg #[.bool neg, v, .int .i64 e, .bool more]] w (Gives (rRes (pr size) how neg (sc n e) more) w) := by
  obtain ⟨p1, p2⟩ := pr_pos size
  have hp := dz_pr hs
  have hm' : more = true → pr size < dg n := fun h => Nat.lt_of_le_of_lt p2 (hm h)
  have hd : 0 ≤ how ∧ how ≤ 3 := of_decide_eq_true hh
  by_cases h0 : n = 0
  · subst h0
    obtain rfl : more = false := by
      cases more
      · rfl
      · have := hm rfl; rw [dg_zero] at this; omega
    obtain ⟨a, b, c⟩ := round_zero (p := pr size) (how := how) (e := e) (neg := neg)
    unfold rRes
    rw [a, b, c]
    exact gives_mk _ _ _ (refRnd_zero size how _ neg e v w ht h hp)
  · have key : Calls Tryd.prog 38 #[.int .i64 size, .int .i64 how, .agg #[.bool neg, v, .int .i64 e, .bool more]] w fun x w' => ∃ M X er : Int, x = .returned (.tuple #[.agg #[.int .i64 M, .int .i64 X], .int .i64 er]) ∧ RndRes (pr size) how neg (rcR (pr size) how neg e n more) (rcE (pr size) e n) M X er ∧ Kept w w' := by
      by_cases hf : (dg (rcR (pr size) how neg e n more) : Int) + rcE (pr size) e n ≤ (pr size : Int) + 400
      · exact rnd_fit size how neg more n _ e v w ht h hp h0 hn (by omega) he' p2 (by omega) hm' (Lib.hid hf) trivial
      · rcases inw_ways (neg := neg) hd.1 hd.2 with ⟨_, rfl | ⟨rfl, rfl⟩ | ⟨rfl, rfl⟩⟩ | ⟨_, rfl | ⟨rfl, rfl⟩ | ⟨rfl, rfl⟩⟩
        · exact rnd_in3 size _ _ more n _ e v w ht h hp h0 hn (by omega) he' p2 (by omega) hm' (Lib.hid hf) rfl
        · exact rnd_in2 size _ _ more n _ e v w ht h hp h0 hn (by omega) he' p2 (by omega) hm' (Lib.hid hf) ⟨rfl, rfl⟩
        · exact rnd_in1 size _ _ more n _ e v w ht h hp h0 hn (by omega) he' p2 (by omega) hm' (Lib.hid hf) ⟨rfl, rfl⟩
        · exact rnd_out0 size _ _ more n _ e v w ht h hp h0 hn (by omega) he' p2 (by omega) hm' (Lib.hid hf) rfl
        · exact rnd_out2 size _ _ more n _ e v w ht h hp h0 hn (by omega) he' p2 (by omega) hm' (Lib.hid hf) ⟨rfl, rfl⟩
        · exact rnd_out1 size _ _ more n _ e v w ht h hp h0 hn (by omega) he' p2 (by omega) hm' (Lib.hid hf) ⟨rfl, rfl⟩
    unfold rRes
    refine gives_mk _ _ _ (key.mono fun x w' ⟨M, X, er, hx, hr, hk⟩ => ⟨?_, hk⟩)
    obtain ⟨a, b, c⟩ := rnd_plain h0 he (by omega) hd.1 hd.2 hm' hr
    rw [hx, a, b, c]
end Go.Proofs.YtanfhlkfmmglhaaDoor
