/- What the law on orders says of results: plain mathematics. No condition. -/
import Derived.Test.YtcmgphfcpgebfaaDoorRfac
namespace Go.Proofs.YtcmgphfcpgebfaaDoor

theorem sg_mul (x y : Bool) (u v : Nat) : sg x u * sg y v = sg (x != y) (u * v) := by
  unfold sg
  cases x <;> cases y <;> simp [Int.neg_mul, Int.mul_neg]
theorem pv_mul {a e b f : Int} (he : -550 ≤ e) (hf : -550 ≤ f) : ∃ P : Int, 0 < P ∧ pv a e b f * P = sv a e * sv b f ∧ ∀ c g : Int, -550 ≤ g → pv c g b f * P = sv c g * sv b f := by
  obtain ⟨P, hP, hp⟩ : ∃ P : Nat, 0 < P ∧ ∀ (x y : Nat) (e f : Int), -550 ≤ e → -550 ≤ f → sc (x * y) (e + f) * P = sc x e * sc y f := ⟨10 ^ 1100, p10 _, fun x y e f he hf => sc_mul x y he hf⟩
  have key : ∀ c g : Int, -550 ≤ g → pv c g b f * (P : Int) = sv c g * sv b f := by
    intro c g hg
    unfold pv sv
    rw [sg_mul, ← hp _ _ _ _ hg hf]
    unfold sg
    split <;> simp [Int.neg_mul]
  exact ⟨P, by omega, key a e he, key⟩
theorem nres_vld {s how N M E : Int} (hs : isSz s = true) (h : nRes (pr s) how N = ⟨M, E, 0⟩) : vld s M E = true ∧ sv M E = nR (pr s) how N ∧ nX (pr s) how N = 0 := by
  have e1 := congrArg Res.M h
  have e2 := congrArg Res.E h
  have e3 := congrArg Res.X h
  unfold nRes at e1 e2 e3
  simp only at e1 e2 e3
  refine ⟨?_, ?_, e3⟩
  · rw [← e1, ← e2]
    unfold nM nE
    exact res_vld hs
  · rw [← e1, ← e2, sv_res]
theorem pr1 (s : Int) : 1 ≤ pr s := by have := (pr_pos s).1; omega
theorem ord_sum {s how a e b f c g A EA B EB : Int} (h1 : aRes s how a e c g = ⟨A, EA, 0⟩) (h2 : aRes s how b f c g = ⟨B, EB, 0⟩) (hle : vld s a e = true → vld s b f = true → sv a e ≤ sv b f) : cmpR A EA B EB ≤ 0 := by
  have x1 : (aRes s how a e c g).X = 0 := by rw [h1]
  have x2 : (aRes s how b f c g).X = 0 := by rw [h2]
  obtain ⟨c1, r1⟩ := ok_ck x1
  obtain ⟨c2, r2⟩ := ok_ck x2
  obtain ⟨_, va, _⟩ := ck_facts c1
  obtain ⟨_, vb, _⟩ := ck_facts c2
  have hz := isSz_of va
  unfold aRes at h1 h2
  rw [r1] at h1
  rw [r2] at h2
  obtain ⟨v1, w1, n1⟩ := nres_vld hz h1
  obtain ⟨v2, w2, n2⟩ := nres_vld hz h2
  rw [cmpR_vld v1 v2, cmpI_le, w1, w2]
  have := hle va vb
  exact nR_mono (pr1 s) (by omega) n1 n2
theorem ord_mul {s how a e b f c g A EA B EB : Int} (hc : 0 ≤ c) (h1 : mRes s how a e c g = ⟨A, EA, 0⟩) (h2 : mRes s how b f c g = ⟨B, EB, 0⟩) (hle : vld s a e = true → vld s b f = true → sv a e ≤ sv b f) : cmpR A EA B EB ≤ 0 := by
  have x1 : (mRes s how a e c g).X = 0 := by rw [h1]
  have x2 : (mRes s how b f c g).X = 0 := by rw [h2]
  obtain ⟨c1, r1⟩ := ok_ck x1
  obtain ⟨c2, r2⟩ := ok_ck x2
  obtain ⟨_, va, vc⟩ := ck_facts c1
  obtain ⟨_, vb, _⟩ := ck_facts c2
  have hz := isSz_of va
  unfold mRes at h1 h2
  rw [r1] at h1
  rw [r2] at h2
  obtain ⟨v1, w1, n1⟩ := nres_vld hz h1
  obtain ⟨v2, w2, n2⟩ := nres_vld hz h2
  rw [cmpR_vld v1 v2, cmpI_le, w1, w2]
  have hl := hle va vb
  obtain ⟨_, _, ea, _⟩ := vld_facts va
  obtain ⟨_, _, eb, _⟩ := vld_facts vb
  obtain ⟨_, _, ec, _⟩ := vld_facts vc
  obtain ⟨P, hP, p1, p2⟩ := pv_mul (a := a) (e := e) (b := c) (f := g) (by omega) (by omega)
  have p3 := p2 b f (by omega)
  have hs : 0 ≤ sv c g := by rw [sv_pos (by omega)]; omega
  have hm : pv a e c g * P ≤ pv b f c g * P := by rw [p1, p3]; exact Int.mul_le_mul_of_nonneg_right hl hs
  exact nR_mono (pr1 s) (Int.le_of_mul_le_mul_right hm hP) n1 n2
theorem ord_le {a e b f : Int} (h : cmpR a e b f ≤ 0) : ∀ s, vld s a e = true → vld s b f = true → sv a e ≤ sv b f := by
  intro s va vb
  rw [cmpR_vld va vb, cmpI_le] at h
  exact h
theorem ord_ge {a e b f : Int} (h : 0 < cmpR a e b f) : ∀ s, vld s b f = true → vld s a e = true → sv b f ≤ sv a e := by
  intro s vb va
  rw [cmpR_vld va vb, cmpI_gt] at h
  omega
end Go.Proofs.YtcmgphfcpgebfaaDoor
