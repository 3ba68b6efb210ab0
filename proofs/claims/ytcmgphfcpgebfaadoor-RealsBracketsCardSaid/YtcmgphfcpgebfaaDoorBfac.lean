/- What the law on brackets says of results: plain mathematics. No condition. -/
import Derived.Test.YtcmgphfcpgebfaaDoorOne1
import Derived.Test.YtcmgphfcpgebfaaDoorRfac
namespace Go.Proofs.YtcmgphfcpgebfaaDoor
open Go.ChangeShapes Go.WideShapes Go.ChangeAt Go.RowKit
attribute [local go_sem ↓] Go.wp_at_zero Go.wp_at_succ

/-- The result of an operation by its number. -/
def oRes (op s how a e b f : Int) : Res :=
  if op % 5 = 0 then aRes s how a e b f else if op % 5 = 1 then bRes s how a e b f else if op % 5 = 2 then mRes s how a e b f else if op % 5 = 3 then dRes s how a e b f else sRes s how a e
theorem bd_o (op s how a e b f : Int) : Bd (oRes op s how a e b f) := by
  unfold oRes
  repeat' split
  · exact bd_a ..
  · exact bd_b ..
  · exact bd_m ..
  · exact bd_d ..
  · exact bd_s ..
theorem ck_dir {s how k : Int} (ops : List (Int × Int)) (h : isDir how = true) (hk : isDir k = true) : ckR s how ops = ckR s k ops := by
  unfold ckR
  rw [h, hk]
/-- In all directions an error, or the rounding of one number. -/
def Shape (s : Int) (r : Int → Res) : Prop := (∃ c, (c != 0) = true ∧ ∀ j, isDir j = true → r j = ⟨0, 0, c⟩) ∨ (isSz s = true ∧ ∃ neg V m, ∀ j, isDir j = true → r j = rRes (pr s) j neg V m)
theorem shape_ok {s : Int} {ops : List (Int × Int)} {r : Int → Res} (h : ckR s 0 ops = 0 → Shape s r) : Shape s (fun j => okOr (ckR s j ops) (r j)) := by
  rcases ck_cases (c := ckR s 0 ops) with hc | hc
  · have h1 : ∀ j, isDir j = true → okOr (ckR s j ops) (r j) = r j := fun j hj => okOr_zero _ ((ck_dir ops hj (by decide)).trans hc)
    rcases h hc with ⟨c, h2, h3⟩ | ⟨h2, neg, V, m, h3⟩
    · exact Or.inl ⟨c, h2, fun j hj => (h1 j hj).trans (h3 j hj)⟩
    · exact Or.inr ⟨h2, neg, V, m, fun j hj => (h1 j hj).trans (h3 j hj)⟩
  · exact Or.inl ⟨_, hc, fun j hj => okOr_ne _ (by rw [ck_dir ops hj (k := 0) (by decide)]; exact hc) |>.trans (by rw [ck_dir ops hj (k := 0) (by decide)])⟩
theorem shape_n {s N : Int} (hs : isSz s = true) : Shape s (fun j => nRes (pr s) j N) := Or.inr ⟨hs, decide (N < 0), N.natAbs, false, fun _ _ => rfl⟩
theorem shape_c {s c : Int} (h : (c != 0) = true) : Shape s (fun _ => ⟨0, 0, c⟩) := Or.inl ⟨c, h, fun _ _ => rfl⟩
theorem shape_z {s : Int} (hs : isSz s = true) : Shape s (fun _ => ⟨0, 0, 0⟩) := Or.inr ⟨hs, false, 0, false, fun j _ => by
  obtain ⟨a, b, c⟩ := zero_res (pr s) j false
  unfold rRes
  rw [a, b, c]⟩
theorem op_shape (op s a e b f : Int) : Shape s (fun j => oRes op s j a e b f) := by
  unfold oRes
  repeat' split
  · unfold aRes; exact shape_ok fun hc => shape_n (isSz_of (ck_facts hc).2.1)
  · unfold bRes; exact shape_ok fun hc => shape_n (isSz_of (ck_facts hc).2.1)
  · unfold mRes; exact shape_ok fun hc => shape_n (isSz_of (ck_facts hc).2.1)
  · unfold dRes
    refine shape_ok fun hc => ?_
    have hs := isSz_of (ck_facts hc).2.1
    split
    · exact shape_c (by decide)
    · split
      · exact shape_z hs
      · exact Or.inr ⟨hs, _, _, _, fun _ _ => rfl⟩
  · unfold sRes
    refine shape_ok fun hc => ?_
    have hs := isSz_of (ck1_facts hc).2
    split
    · exact shape_c (by decide)
    · split
      · exact shape_z hs
      · exact Or.inr ⟨hs, _, _, _, fun _ _ => rfl⟩
theorem rres_parts {p : Nat} {how : Int} {neg : Bool} {V : Nat} {m : Bool} {M E X : Int} (h : rRes p how neg V m = ⟨M, E, X⟩) : rM p how neg V m = M ∧ rE p how neg V m = E ∧ rX p how neg V m = X := by
  have e1 := congrArg Res.M h
  have e2 := congrArg Res.E h
  have e3 := congrArg Res.X h
  unfold rRes at e1 e2 e3
  simp only at e1 e2 e3
  exact ⟨e1, e2, e3⟩
theorem br_err {op s j a e b f M E X : Int} (hj : isDir j = true) (h : oRes op s j a e b f = ⟨M, E, X⟩) : (X = 0 → vld s M E = true) ∧ (X ≠ 0 → M = 0 ∧ E = 0) := by
  rcases op_shape op s a e b f with ⟨c, hc, h1⟩ | ⟨hs, neg, V, m, h1⟩
  · have h2 := (h1 j hj).symm.trans h
    have e1 := congrArg Res.M h2
    have e2 := congrArg Res.E h2
    have e3 := congrArg Res.X h2
    simp only at e1 e2 e3
    refine ⟨fun h => ?_, fun _ => ⟨e1.symm, e2.symm⟩⟩
    rw [e3, h] at hc
    simp at hc
  · obtain ⟨e1, e2, e3⟩ := rres_parts ((h1 j hj).symm.trans h)
    refine ⟨fun _ => by rw [← e1, ← e2]; exact res_vld hs, fun hX => ?_⟩
    rw [← e3] at hX
    unfold rX at hX
    have ho : oF (pr s) j neg V m = true := by
      cases hc : oF (pr s) j neg V m
      · rw [hc] at hX; simp at hX
      · rfl
    unfold oF at ho
    rw [Bool.and_eq_true] at ho
    have hz : oV (pr s) j neg V m = 0 := by
      unfold oV
      rw [ho.1, if_pos rfl]
      cases hi : inw j neg
      · simp
      · rw [hi] at ho; simp at ho
    rw [← e1, ← e2]
    unfold rM rE
    rw [hz, fM_zero, fE_zero]
    exact ⟨rfl, rfl⟩
theorem br_law {op s a e b f M0 E0 M1 E1 M2 E2 M3 E3 : Int} (h0 : oRes op s 0 a e b f = ⟨M0, E0, 0⟩) (h1 : oRes op s 1 a e b f = ⟨M1, E1, 0⟩) (h2 : oRes op s 2 a e b f = ⟨M2, E2, 0⟩) (h3 : oRes op s 3 a e b f = ⟨M3, E3, 0⟩) :
    cmpR M2 E2 M1 E1 ≤ 0 ∧ ((M0 = M1 ∧ E0 = E1) ∨ (M0 = M2 ∧ E0 = E2)) ∧ (M3 = if M2 < 0 then M1 else M2) ∧ (E3 = if M2 < 0 then E1 else E2) := by
  rcases op_shape op s a e b f with ⟨c, hc, hr⟩ | ⟨hs, neg, V, m, hr⟩
  · have := congrArg Res.X ((hr 0 (by decide)).symm.trans h0)
    simp only at this
    rw [this] at hc
    simp at hc
  · obtain ⟨a0, b0, c0⟩ := rres_parts ((hr 0 (by decide)).symm.trans h0)
    obtain ⟨a1, b1, c1⟩ := rres_parts ((hr 1 (by decide)).symm.trans h1)
    obtain ⟨a2, b2, c2⟩ := rres_parts ((hr 2 (by decide)).symm.trans h2)
    obtain ⟨a3, b3, c3⟩ := rres_parts ((hr 3 (by decide)).symm.trans h3)
    obtain ⟨k1, k2, k3, k4⟩ := brackets c0 c1 c2
    rw [a3, a2, a1] at k3
    rw [b3, a2, b1, b2] at k4
    refine ⟨?_, ?_, k3, k4⟩
    · rw [← a2, ← b2, ← a1, ← b1, cmpR_vld (res_vld hs) (res_vld hs), cmpI_le, sv_res', sv_res']
      exact k1
    · rw [← a0, ← b0, ← a1, ← b1, ← a2, ← b2]
      unfold rM rE
      rcases k2 with h | h
      · left; rw [h]; exact ⟨rfl, rfl⟩
      · right; rw [h]; exact ⟨rfl, rfl⟩

set_option maxRecDepth 100000 in
set_option maxHeartbeats 4000000 in
theorem apply0 (op s how a e b f : Int) (w : World) (ht : Tab w) (h0 : 0 ≤ op) (h1 : op ≤ 255) (hop : op % 5 = 0) (la : -9223372036854775808 ≤ a) (ha : a ≤ 9223372036854775807) (lb : -9223372036854775808 ≤ b) (hb : b ≤ 9223372036854775807) (M E X : Int) (hr : aRes s how a e b f = ⟨M, E, X⟩) :
    Calls Tryd.prog 45 #[.int .u8 op, .int .i64 s, .int .i64 how, .agg #[.int .i64 a, .int .i64 e], .agg #[.int .i64 b, .int .i64 f]] w fun x w' => x = .returned (.tuple #[.agg #[.int .i64 M, .int .i64 E], .int .i64 X]) ∧ Kept w w' := by
  have hlt := ht.lt
  have hlt0 := ht.lt0
  have H1 := Lib.hid (fun w ht => gives_out hr (add_any s how a e b f w ht la ha lb hb))
  clear hr la ha lb hb
  go_enter Tryd.func45, Tryd.ntmps45
  go_wp2_with (first | (go_at_call 19; (with_reducible refine (H1.out _ (by repeat' (first | (with_reducible assumption) | (with_reducible refine Tab.alloc ?_ _) | (with_reducible refine Tab.drew ?_) | (with_reducible refine Tab.drewN ?_ _) | (with_reducible refine Tab.setCell ?_ ?_ ?_ _) | omega | (simp; done) | (simp; omega)))).mono ?_); rintro e w1 ⟨rfl, hk1⟩; obtain ⟨hc1, hf1⟩ := bcell hk1.2; have ht1 := hk1.1; have hz1 := hk1.2.size; (try simp only [World.size_alloc] at hz1); (try simp only [sz_drew] at hz1); (try simp only [sz_drewN] at hz1); (try simp only [World.size_alloc] at hz1); (try simp only [sz_drew] at hc1 hf1); (try simp only [sz_drewN] at hc1 hf1); (try have hw1 : w.heap.size < w1.heap.size := by omega); (try have hv1 : w.heap.size + 1 < w1.heap.size := by omega); (try have hu1 : w.heap.size + 2 < w1.heap.size := by omega)))
  have hI := (Inv.three ht 29 [.int .i64 a, .int .i64 e] 29 [.int .i64 b, .int .i64 f] 29 [.int .i64 0, .int .i64 0]).call hk1
  have hF := ((hI.own 2 _ rfl).put 0 (.int .i64 M)).put 1 (.int .i64 E)
  refine bodyPost_ret (ret_own_tmp rfl hF rfl Tryd.underlying29 rfl (by kernel_rfl)) rfl ?_
  exact ⟨rfl, (by repeat' (first | (with_reducible assumption) | (with_reducible exact Kept.refl ht) | (with_reducible refine Kept.alloc ?_ _) | (with_reducible refine Kept.drew ?_) | (with_reducible refine Kept.drewN ?_ _) | (with_reducible refine Kept.setCell ?_ ?_ _ ?_ ?_) | (with_reducible refine Kept.trans ?_ (by assumption)) | omega | (simp; done) | (simp; omega)))⟩

set_option maxRecDepth 100000 in
set_option maxHeartbeats 4000000 in
theorem apply1 (op s how a e b f : Int) (w : World) (ht : Tab w) (h0 : 0 ≤ op) (h1 : op ≤ 255) (hop : op % 5 = 1) (la : -9223372036854775808 ≤ a) (ha : a ≤ 9223372036854775807) (lb : -9223372036854775808 ≤ b) (hb : b ≤ 9223372036854775807) (M E X : Int) (hr : bRes s how a e b f = ⟨M, E, X⟩) :
    Calls Tryd.prog 45 #[.int .u8 op, .int .i64 s, .int .i64 how, .agg #[.int .i64 a, .int .i64 e], .agg #[.int .i64 b, .int .i64 f]] w fun x w' => x = .returned (.tuple #[.agg #[.int .i64 M, .int .i64 E], .int .i64 X]) ∧ Kept w w' := by
  have hlt := ht.lt
  have hlt0 := ht.lt0
  have H1 := Lib.hid (fun w ht => gives_out hr (sub_any s how a e b f w ht la ha lb hb))
  clear hr la ha lb hb
  go_enter Tryd.func45, Tryd.ntmps45
  go_wp2_with (first | (go_at_call 21; (with_reducible refine (H1.out _ (by repeat' (first | (with_reducible assumption) | (with_reducible refine Tab.alloc ?_ _) | (with_reducible refine Tab.drew ?_) | (with_reducible refine Tab.drewN ?_ _) | (with_reducible refine Tab.setCell ?_ ?_ ?_ _) | omega | (simp; done) | (simp; omega)))).mono ?_); rintro e w1 ⟨rfl, hk1⟩; obtain ⟨hc1, hf1⟩ := bcell hk1.2; have ht1 := hk1.1; have hz1 := hk1.2.size; (try simp only [World.size_alloc] at hz1); (try simp only [sz_drew] at hz1); (try simp only [sz_drewN] at hz1); (try simp only [World.size_alloc] at hz1); (try simp only [sz_drew] at hc1 hf1); (try simp only [sz_drewN] at hc1 hf1); (try have hw1 : w.heap.size < w1.heap.size := by omega); (try have hv1 : w.heap.size + 1 < w1.heap.size := by omega); (try have hu1 : w.heap.size + 2 < w1.heap.size := by omega)))
  have hI := (Inv.three ht 29 [.int .i64 a, .int .i64 e] 29 [.int .i64 b, .int .i64 f] 29 [.int .i64 0, .int .i64 0]).call hk1
  have hF := ((hI.own 2 _ rfl).put 0 (.int .i64 M)).put 1 (.int .i64 E)
  refine bodyPost_ret (ret_own_tmp rfl hF rfl Tryd.underlying29 rfl (by kernel_rfl)) rfl ?_
  exact ⟨rfl, (by repeat' (first | (with_reducible assumption) | (with_reducible exact Kept.refl ht) | (with_reducible refine Kept.alloc ?_ _) | (with_reducible refine Kept.drew ?_) | (with_reducible refine Kept.drewN ?_ _) | (with_reducible refine Kept.setCell ?_ ?_ _ ?_ ?_) | (with_reducible refine Kept.trans ?_ (by assumption)) | omega | (simp; done) | (simp; omega)))⟩

set_option maxRecDepth 100000 in
set_option maxHeartbeats 4000000 in
theorem apply2 (op s how a e b f : Int) (w : World) (ht : Tab w) (h0 : 0 ≤ op) (h1 : op ≤ 255) (hop : op % 5 = 2) (la : -9223372036854775808 ≤ a) (ha : a ≤ 9223372036854775807) (lb : -9223372036854775808 ≤ b) (hb : b ≤ 9223372036854775807) (M E X : Int) (hr : mRes s how a e b f = ⟨M, E, X⟩) :
    Calls Tryd.prog 45 #[.int .u8 op, .int .i64 s, .int .i64 how, .agg #[.int .i64 a, .int .i64 e], .agg #[.int .i64 b, .int .i64 f]] w fun x w' => x = .returned (.tuple #[.agg #[.int .i64 M, .int .i64 E], .int .i64 X]) ∧ Kept w w' := by
  have hlt := ht.lt
  have hlt0 := ht.lt0
  have H1 := Lib.hid (fun w ht => gives_out hr (mul_any s how a e b f w ht la ha lb hb))
  clear hr la ha lb hb
  go_enter Tryd.func45, Tryd.ntmps45
  go_wp2_with (first | (go_at_call 23; (with_reducible refine (H1.out _ (by repeat' (first | (with_reducible assumption) | (with_reducible refine Tab.alloc ?_ _) | (with_reducible refine Tab.drew ?_) | (with_reducible refine Tab.drewN ?_ _) | (with_reducible refine Tab.setCell ?_ ?_ ?_ _) | omega | (simp; done) | (simp; omega)))).mono ?_); rintro e w1 ⟨rfl, hk1⟩; obtain ⟨hc1, hf1⟩ := bcell hk1.2; have ht1 := hk1.1; have hz1 := hk1.2.size; (try simp only [World.size_alloc] at hz1); (try simp only [sz_drew] at hz1); (try simp only [sz_drewN] at hz1); (try simp only [World.size_alloc] at hz1); (try simp only [sz_drew] at hc1 hf1); (try simp only [sz_drewN] at hc1 hf1); (try have hw1 : w.heap.size < w1.heap.size := by omega); (try have hv1 : w.heap.size + 1 < w1.heap.size := by omega); (try have hu1 : w.heap.size + 2 < w1.heap.size := by omega)))
  have hI := (Inv.three ht 29 [.int .i64 a, .int .i64 e] 29 [.int .i64 b, .int .i64 f] 29 [.int .i64 0, .int .i64 0]).call hk1
  have hF := ((hI.own 2 _ rfl).put 0 (.int .i64 M)).put 1 (.int .i64 E)
  refine bodyPost_ret (ret_own_tmp rfl hF rfl Tryd.underlying29 rfl (by kernel_rfl)) rfl ?_
  exact ⟨rfl, (by repeat' (first | (with_reducible assumption) | (with_reducible exact Kept.refl ht) | (with_reducible refine Kept.alloc ?_ _) | (with_reducible refine Kept.drew ?_) | (with_reducible refine Kept.drewN ?_ _) | (with_reducible refine Kept.setCell ?_ ?_ _ ?_ ?_) | (with_reducible refine Kept.trans ?_ (by assumption)) | omega | (simp; done) | (simp; omega)))⟩

set_option maxRecDepth 100000 in
set_option maxHeartbeats 4000000 in
theorem apply3 (op s how a e b f : Int) (w : World) (ht : Tab w) (h0 : 0 ≤ op) (h1 : op ≤ 255) (hop : op % 5 = 3) (la : -9223372036854775808 ≤ a) (ha : a ≤ 9223372036854775807) (lb : -9223372036854775808 ≤ b) (hb : b ≤ 9223372036854775807) (M E X : Int) (hr : dRes s how a e b f = ⟨M, E, X⟩) :
    Calls Tryd.prog 45 #[.int .u8 op, .int .i64 s, .int .i64 how, .agg #[.int .i64 a, .int .i64 e], .agg #[.int .i64 b, .int .i64 f]] w fun x w' => x = .returned (.tuple #[.agg #[.int .i64 M, .int .i64 E], .int .i64 X]) ∧ Kept w w' := by
  have hlt := ht.lt
  have hlt0 := ht.lt0
  have H1 := Lib.hid (fun w ht => gives_out hr (div_any s how a e b f w ht la ha lb hb))
  clear hr la ha lb hb
  go_enter Tryd.func45, Tryd.ntmps45
  go_wp2_with (first | (go_at_call 25; (with_reducible refine (H1.out _ (by repeat' (first | (with_reducible assumption) | (with_reducible refine Tab.alloc ?_ _) | (with_reducible refine Tab.drew ?_) | (with_reducible refine Tab.drewN ?_ _) | (with_reducible refine Tab.setCell ?_ ?_ ?_ _) | omega | (simp; done) | (simp; omega)))).mono ?_); rintro e w1 ⟨rfl, hk1⟩; obtain ⟨hc1, hf1⟩ := bcell hk1.2; have ht1 := hk1.1; have hz1 := hk1.2.size; (try simp only [World.size_alloc] at hz1); (try simp only [sz_drew] at hz1); (try simp only [sz_drewN] at hz1); (try simp only [World.size_alloc] at hz1); (try simp only [sz_drew] at hc1 hf1); (try simp only [sz_drewN] at hc1 hf1); (try have hw1 : w.heap.size < w1.heap.size := by omega); (try have hv1 : w.heap.size + 1 < w1.heap.size := by omega); (try have hu1 : w.heap.size + 2 < w1.heap.size := by omega)))
  have hI := (Inv.three ht 29 [.int .i64 a, .int .i64 e] 29 [.int .i64 b, .int .i64 f] 29 [.int .i64 0, .int .i64 0]).call hk1
  have hF := ((hI.own 2 _ rfl).put 0 (.int .i64 M)).put 1 (.int .i64 E)
  refine bodyPost_ret (ret_own_tmp rfl hF rfl Tryd.underlying29 rfl (by kernel_rfl)) rfl ?_
  exact ⟨rfl, (by repeat' (first | (with_reducible assumption) | (with_reducible exact Kept.refl ht) | (with_reducible refine Kept.alloc ?_ _) | (with_reducible refine Kept.drew ?_) | (with_reducible refine Kept.drewN ?_ _) | (with_reducible refine Kept.setCell ?_ ?_ _ ?_ ?_) | (with_reducible refine Kept.trans ?_ (by assumption)) | omega | (simp; done) | (simp; omega)))⟩

set_option maxRecDepth 100000 in
set_option maxHeartbeats 4000000 in
theorem apply4 (op s how a e b f : Int) (w : World) (ht : Tab w) (h0 : 0 ≤ op) (h1 : op ≤ 255) (hop : op % 5 = 4) (la : -9223372036854775808 ≤ a) (ha : a ≤ 9223372036854775807) (M E X : Int) (hr : sRes s how a e = ⟨M, E, X⟩) :
    Calls Tryd.prog 45 #[.int .u8 op, .int .i64 s, .int .i64 how, .agg #[.int .i64 a, .int .i64 e], .agg #[.int .i64 b, .int .i64 f]] w fun x w' => x = .returned (.tuple #[.agg #[.int .i64 M, .int .i64 E], .int .i64 X]) ∧ Kept w w' := by
  have hlt := ht.lt
  have hlt0 := ht.lt0
  have H1 := Lib.hid (fun w ht => gives_out hr (sqrt_any s how a e w ht la ha))
  clear hr la ha
  go_enter Tryd.func45, Tryd.ntmps45
  go_wp2_with (first | (go_at_call 27; (with_reducible refine (H1.out _ (by repeat' (first | (with_reducible assumption) | (with_reducible refine Tab.alloc ?_ _) | (with_reducible refine Tab.drew ?_) | (with_reducible refine Tab.drewN ?_ _) | (with_reducible refine Tab.setCell ?_ ?_ ?_ _) | omega | (simp; done) | (simp; omega)))).mono ?_); rintro e w1 ⟨rfl, hk1⟩; obtain ⟨hc1, hf1⟩ := bcell hk1.2; have ht1 := hk1.1; have hz1 := hk1.2.size; (try simp only [World.size_alloc] at hz1); (try simp only [sz_drew] at hz1); (try simp only [sz_drewN] at hz1); (try simp only [World.size_alloc] at hz1); (try simp only [sz_drew] at hc1 hf1); (try simp only [sz_drewN] at hc1 hf1); (try have hw1 : w.heap.size < w1.heap.size := by omega); (try have hv1 : w.heap.size + 1 < w1.heap.size := by omega); (try have hu1 : w.heap.size + 2 < w1.heap.size := by omega)))
  have hI := (Inv.three ht 29 [.int .i64 a, .int .i64 e] 29 [.int .i64 b, .int .i64 f] 29 [.int .i64 0, .int .i64 0]).call hk1
  have hF := ((hI.own 2 _ rfl).put 0 (.int .i64 M)).put 1 (.int .i64 E)
  refine bodyPost_ret (ret_own_tmp rfl hF rfl Tryd.underlying29 rfl (by kernel_rfl)) rfl ?_
  exact ⟨rfl, (by repeat' (first | (with_reducible assumption) | (with_reducible exact Kept.refl ht) | (with_reducible refine Kept.alloc ?_ _) | (with_reducible refine Kept.drew ?_) | (with_reducible refine Kept.drewN ?_ _) | (with_reducible refine Kept.setCell ?_ ?_ _ ?_ ?_) | (with_reducible refine Kept.trans ?_ (by assumption)) | omega | (simp; done) | (simp; omega)))⟩

theorem apply_any (op s how a e b f : Int) (w : World) (ht : Tab w) (h0 : 0 ≤ op) (h1 : op ≤ 255) (la : -9223372036854775808 ≤ a) (ha : a ≤ 9223372036854775807) (lb : -9223372036854775808 ≤ b) (hb : b ≤ 9223372036854775807) (M E X : Int) (hr : oRes op s how a e b f = ⟨M, E, X⟩) :
    Calls Tryd.prog 45 #[.int .u8 op, .int .i64 s, .int .i64 how, .agg #[.int .i64 a, .int .i64 e], .agg #[.int .i64 b, .int .i64 f]] w fun x w' => x = .returned (.tuple #[.agg #[.int .i64 M, .int .i64 E], .int .i64 X]) ∧ Kept w w' := by
  unfold oRes at hr
  rcases (by omega : op % 5 = 0 ∨ op % 5 = 1 ∨ op % 5 = 2 ∨ op % 5 = 3 ∨ op % 5 = 4) with h | h | h | h | h
  · rw [if_pos h] at hr
    exact apply0 op s how a e b f w ht h0 h1 h la ha lb hb M E X hr
  · rw [if_neg (by omega), if_pos h] at hr
    exact apply1 op s how a e b f w ht h0 h1 h la ha lb hb M E X hr
  · rw [if_neg (by omega), if_neg (by omega), if_pos h] at hr
    exact apply2 op s how a e b f w ht h0 h1 h la ha lb hb M E X hr
  · rw [if_neg (by omega), if_neg (by omega), if_neg (by omega), if_pos h] at hr
    exact apply3 op s how a e b f w ht h0 h1 h la ha lb hb M E X hr
  · rw [if_neg (by omega), if_neg (by omega), if_neg (by omega), if_neg (by omega)] at hr
    exact apply4 op s how a e b f w ht h0 h1 h la ha M E X hr
end Go.Proofs.YtcmgphfcpgebfaaDoor
