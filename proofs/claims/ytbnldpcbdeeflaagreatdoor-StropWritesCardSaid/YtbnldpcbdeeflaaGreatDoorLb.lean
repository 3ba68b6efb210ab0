/- What the laws of this layer share. Condition: the tables hold what they are laid with. -/
import Derived.Test.YtbnldpcbdeeflaaGreatDoorTx
namespace Go.Proofs.YtbnldpcbdeeflaaGreatDoor
open Go.ChangeShapes Go.WideShapes Go.ChangeAt Go.RowKit

theorem Sl.form2 {w : World} {B : Nat} {v : Value} {l : List Sy} (h : Sl w B v l) : (v = .slice none 0 0 ∧ l = []) ∨ ∃ g cap, v = .slice (some ⟨g, 0, none⟩) l.length cap ∧ l.length ≤ cap ∧ g < w.heap.size ∧ ∀ j u, (sy l)[j]? = some u → w.cell? ⟨g, j, none⟩ = some u := by
  have hc := fun g hg => World.ownsRow.cells h (g := g) hg
  have hlt := World.ownsRow.lt h
  rcases h.2 with ⟨hv, h0⟩ | ⟨g, cap, cur, hv, hB, _, hn, _⟩
  · exact Or.inl ⟨hv, List.length_eq_zero_iff.1 h0⟩
  · refine Or.inr ⟨g, cap, hv, hn, (hlt g (by rw [hv]; rfl)).2, ?_⟩
    intro j u hj
    have := hc g (by rw [hv]; rfl) j u hj
    by_cases h0 : j = 0
    · subst h0
      simpa [Addr.add] using this
    · simpa [Addr.add, h0] using this
theorem sy_at : ∀ (l : List Sy) (i : Nat) (s : Sy), l[i]? = some s → (sy l)[i * 3]? = some (.int .i64 s.1) ∧ (sy l)[i * 3 + 1]? = some (.string s.2.1) ∧ (sy l)[i * 3 + 2]? = some (.int .i64 s.2.2)
  | [], i, s, h => by simp at h
  | x :: l, 0, s, h => by
    obtain rfl := Option.some.inj h
    exact ⟨rfl, rfl, rfl⟩
  | x :: l, i + 1, s, h => by
    have ih := sy_at l i s h
    have e : sy (x :: l) = [.int .i64 x.1, .string x.2.1, .int .i64 x.2.2] ++ sy l := rfl
    rw [e, show (i + 1) * 3 = i * 3 + 3 by omega]
    refine ⟨?_, ?_, ?_⟩
    · rw [List.getElem?_append_right (by simp)]; exact ih.1
    · rw [List.getElem?_append_right (by simp)]; exact ih.2.1
    · rw [List.getElem?_append_right (by simp)]; exact ih.2.2
set_option maxRecDepth 100000 in
set_option maxHeartbeats 4000000 in
theorem equal_some (g1 g2 c1 c2 : Nat) (l : List Sy) (w : World) (hl : l.length ≤ 1000000) (hc1 : l.length ≤ c1) (hc2 : l.length ≤ c2) (h1 : g1 < w.heap.size) (h2 : g2 < w.heap.size) (q1 : ∀ j u, (sy l)[j]? = some u → w.cell? ⟨g1, j, none⟩ = some u) (q2 : ∀ j u, (sy l)[j]? = some u → w.cell? ⟨g2, j, none⟩ = some u) :
    Calls Tryz.prog 12 #[.slice (some ⟨g1, 0, none⟩) l.length c1, .slice (some ⟨g2, 0, none⟩) l.length c2] w fun e w' => e = .returned (.bool true) ∧ Below w.heap.size w w' := by
  have HQ1 := Lib.hid q1
  have HQ2 := Lib.hid q2
  clear q1 q2
  go_enter Tryz.func12, Tryz.ntmps12
  go_wp2
  go_loopw [13] (fun v13 wr => ∃ i : Nat, i ≤ l.length ∧ v13 = .int .i64 i ∧ Below w.heap.size w wr) (fun v13 _ => l.length - (intOf v13).toNat)
  case atStart => exact ⟨0, Nat.zero_le _, rfl, Below.refl _ w⟩
  case round =>
    obtain ⟨i, hi, rfl, hb⟩ := hrel
    have HB := Lib.hid hb
    by_cases hil : i < l.length
    · obtain ⟨s, hs⟩ : ∃ s, l[i]? = some s := ⟨l[i], List.getElem?_eq_getElem hil⟩
      obtain ⟨s1, s2, s3⟩ := sy_at l i s hs
      have a0 : wr.cell? ⟨g1, i * 3, none⟩ = some (.int .i64 s.1) := (hb.cell (p := ⟨g1, i * 3, none⟩) h1).trans (HQ1.out _ _ s1)
      have a1 : wr.cell? ⟨g1, i * 3 + 1, none⟩ = some (.string s.2.1) := (hb.cell (p := ⟨g1, i * 3 + 1, none⟩) h1).trans (HQ1.out _ _ s2)
      have a2 : wr.cell? ⟨g1, i * 3 + 2, none⟩ = some (.int .i64 s.2.2) := (hb.cell (p := ⟨g1, i * 3 + 2, none⟩) h1).trans (HQ1.out _ _ s3)
      have b0 : wr.cell? ⟨g2, i * 3, none⟩ = some (.int .i64 s.1) := (hb.cell (p := ⟨g2, i * 3, none⟩) h2).trans (HQ2.out _ _ s1)
      have b1 : wr.cell? ⟨g2, i * 3 + 1, none⟩ = some (.string s.2.1) := (hb.cell (p := ⟨g2, i * 3 + 1, none⟩) h2).trans (HQ2.out _ _ s2)
      have b2 : wr.cell? ⟨g2, i * 3 + 2, none⟩ = some (.int .i64 s.2.2) := (hb.cell (p := ⟨g2, i * 3 + 2, none⟩) h2).trans (HQ2.out _ _ s3)
      obtain ⟨k, x, p⟩ := s
      simp only at a0 a1 a2 b0 b1 b2
      clear hb hs s1 s2 s3
      go_upto_region 6 with fail
      go_region
      go_wp2_with fail
      go_roundw
      case rel => exact ⟨i + 1, hil, by go_num, HB.out.drew⟩
      case measure => simp [intOf]; omega
    · have hie : i = l.length := by omega
      subst hie
      clear hb
      go_wp2
      go_returns
      exact ⟨rfl, HB.out⟩
theorem equal_na (g c : Nat) (w : World) (hc : 0 ≤ c) :
    Calls Tryz.prog 12 #[.slice none 0 0, .slice none 0 0] w fun e w' => e = .returned (.bool true) ∧ Below w.heap.size w w' := by
  go_enter Tryz.func12, Tryz.ntmps12
  go_wp2
  go_loop [13] (fun v13 => v13 = .int .i64 0) (fun _ => 0)
  case atStart => rfl
  case round =>
    obtain rfl := hrel
    go_wp2
    go_returns
    exact ⟨rfl, Below.refl _ _⟩
theorem equal_nb (g c : Nat) (w : World) (hc : 0 ≤ c) :
    Calls Tryz.prog 12 #[.slice none 0 0, .slice (some ⟨g, 0, none⟩) 0 c] w fun e w' => e = .returned (.bool true) ∧ Below w.heap.size w w' := by
  go_enter Tryz.func12, Tryz.ntmps12
  go_wp2
  go_loop [13] (fun v13 => v13 = .int .i64 0) (fun _ => 0)
  case atStart => rfl
  case round =>
    obtain rfl := hrel
    go_wp2
    go_returns
    exact ⟨rfl, Below.refl _ _⟩
theorem equal_nc (g c : Nat) (w : World) (hc : 0 ≤ c) :
    Calls Tryz.prog 12 #[.slice (some ⟨g, 0, none⟩) 0 c, .slice none 0 0] w fun e w' => e = .returned (.bool true) ∧ Below w.heap.size w w' := by
  go_enter Tryz.func12, Tryz.ntmps12
  go_wp2
  go_loop [13] (fun v13 => v13 = .int .i64 0) (fun _ => 0)
  case atStart => rfl
  case round =>
    obtain rfl := hrel
    go_wp2
    go_returns
    exact ⟨rfl, Below.refl _ _⟩
theorem equal_any (B1 B2 : Nat) (v1 v2 : Value) (l : List Sy) (w : World) (hl : l.length ≤ 1000000) (h1 : Sl w B1 v1 l) (h2 : Sl w B2 v2 l) :
    Calls Tryz.prog 12 #[v1, v2] w fun e w' => e = .returned (.bool true) ∧ Below w.heap.size w w' := by
  rcases Sl.form2 h1 with ⟨rfl, rfl⟩ | ⟨g1, c1, rfl, hc1, hg1, q1⟩ <;> rcases Sl.form2 h2 with ⟨rfl, h0⟩ | ⟨g2, c2, rfl, hc2, hg2, q2⟩
  · exact equal_na 0 0 w (Nat.le_refl _)
  · exact equal_nb g2 c2 w (Nat.zero_le _)
  · subst h0; exact equal_nc g1 c1 w (Nat.zero_le _)
  · exact equal_some g1 g2 c1 c2 l w hl hc1 hc2 hg1 hg2 q1 q2
theorem Sl.gbk {w w' : World} {B : Nat} {v : Value} {l : List Sy} (h : Sl w B v l) (k : Below w.heap.size w w') : Sl w' B v l := by
  exact World.ownsRow.kept h (Gb.of (S := w.heap.size) k) (Or.inr (fun e => absurd (World.ownsRow.lt h _ e).2 (Nat.lt_irrefl _)))
theorem World.cell_alloc_old (w : World) (o : Obj) {b : Nat} (h : b < w.heap.size) (k : Nat) : (w.alloc o).cell? ⟨b, k, none⟩ = w.cell? ⟨b, k, none⟩ := ((Below.refl w.heap.size w).alloc (Nat.le_refl _) o).cell (p := ⟨b, k, none⟩) h
/-- What the laws ask of the world. -/
def Wo (w : World) : Prop := Mx w ∧ Sg w ∧ 0 < w.heap.size ∧ 1 < w.heap.size
theorem Wo.call {w w' : World} (h : Wo w) (hb : Below w.heap.size w w') : Wo w' := ⟨h.1.call hb, fun i hi => (hb.cell (p := ⟨_, i, none⟩) h.2.2.1).trans (h.2.1 i hi), Nat.lt_of_lt_of_le h.2.2.1 hb.size, Nat.lt_of_lt_of_le h.2.2.2 hb.size⟩
theorem Wo.sym {w : World} (h : Wo w) (t : ByteArray) (r : Int) : Calls Tryz.prog 10 #[.string t, .int .i64 r] w (SyP w (syF r t)) := symbols_any t r w h.1 h.2.1 h.2.2.1
set_option maxRecDepth 100000 in
set_option maxHeartbeats 8000000 in
theorem awake_any (w : World) (h : Wo w) : Calls Tryz.prog 9 #[] w fun e w' => e = .returned (.bool true) ∧ Below w.heap.size w w' := by
  have HO := Lib.hid h
  have h1 := h.sym ⟨#[49, 32, 101, 32, 53, 32, 101]⟩ 0
  rw [ev_num] at h1
  have H1 := Lib.hid h1
  have HS2 := Lib.hid (fun (W : World) (hb : Below w.heap.size w W) => (show Calls Tryz.prog 10 #[.string ⟨#[80, 82, 32, 112, 111, 105, 110, 116, 32, 80, 82, 32, 46, 105, 102, 32, 77, 121, 32, 84, 97, 103]⟩, .int .i64 0] W (SyP W _) from ev_pr ▸ (h.call hb).sym ⟨#[80, 82, 32, 112, 111, 105, 110, 116, 32, 80, 82, 32, 46, 105, 102, 32, 77, 121, 32, 84, 97, 103]⟩ 0))
  have HTX := Lib.hid (fun (W : World) (hb : Below w.heap.size w W) (B : Nat) (v : Value) hv => text_ex B v W hv (h.call hb).1 (h.call hb).2.1 (h.call hb).2.2.1 (h.call hb).2.2.2)
  clear h h1
  go_enter Tryz.func9, Tryz.ntmps9
  go_wp2_with (first | (go_at_call 10; (with_reducible refine H1.out.mono ?_); (rintro e w1 ⟨v1, rfl, hv1, hb1⟩); (obtain ⟨g1, c1, rfl, hB1, hl1, hc1, hq1⟩ := Sl.form hv1); (have HQ1 := Lib.hid hq1); (have hz1 := hb1.size); (have HB1 := Lib.hid hb1); (have HBA : Hid (Below w.heap.size w (w1.alloc (.cells #[.int .i64 0, .int .i64 0] 26))) := Lib.hid (hb1.alloc hz1 _)); clear hq1 hb1 hv1) | (go_at_call 10; (with_reducible refine (HS2.out _ HBA.out).mono ?_); (rintro e w2 ⟨v2, rfl, hv2, hb2⟩); (have hz2 := hb2.size); (simp only [World.size_alloc] at hz2); (have HB2 := Lib.hid hb2); (have HV2 := Lib.hid hv2); (have HB3 : Hid (Below w.heap.size w (w2.alloc (.cells #[.int .i64 0, .int .i64 0] 26))) := Lib.hid ((HBA.out.trans (hb2.mono (by simp; omega))).alloc (by omega) _)); clear hb2 hv2) | (go_at_call 16; (have HT3 := HTX.out _ HB3.out _ _ (Sl.alloc HV2.out _)); (with_reducible refine HT3.mono ?_); (rintro e w3 ⟨rfl, hb3⟩); (have k1 : Below w1.heap.size w1 w3 := (((Below.refl w1.heap.size w1).alloc (Nat.le_refl _) _).trans ((HB2.out.mono (by simp)).alloc (by omega) _)).trans (hb3.mono (by simp; omega))); (have q1 : w3.cell? ⟨g1, 1, none⟩ = some (.string ⟨#[49, 101, 53]⟩) := (k1.cell (p := ⟨g1, 1, none⟩) hl1).trans (HQ1.out 1 _ rfl)); (have q3 : w3.cell? ⟨g1, 3, none⟩ = some (.int .i64 2) := (k1.cell (p := ⟨g1, 3, none⟩) hl1).trans (HQ1.out 3 _ rfl)); (have k2 : Below (w1.heap.size + 1) (w1.alloc (.cells #[.int .i64 0, .int .i64 0] 26)) w3 := ((HB2.out.mono (by simp)).alloc (by omega) _).trans (hb3.mono (by simp; omega))); (have n0 : w3.cell? ⟨w1.heap.size, 0, none⟩ = some (.int .i64 0) := (k2.cell (p := ⟨w1.heap.size, 0, none⟩) (Nat.lt_succ_self _)).trans (Own.cell (Own.new w1 26 [.int .i64 0, .int .i64 0]) 0)); (have n1 : w3.cell? ⟨w1.heap.size, 1, none⟩ = some (.int .i64 0) := (k2.cell (p := ⟨w1.heap.size, 1, none⟩) (Nat.lt_succ_self _)).trans (Own.cell (Own.new w1 26 [.int .i64 0, .int .i64 0]) 1)); (have m0 : w3.cell? ⟨w2.heap.size, 0, none⟩ = some (.int .i64 0) := (hb3.cell (p := ⟨w2.heap.size, 0, none⟩) (by simp)).trans (Own.cell (Own.new w2 26 [.int .i64 0, .int .i64 0]) 0)); (have m1 : w3.cell? ⟨w2.heap.size, 1, none⟩ = some (.int .i64 0) := (hb3.cell (p := ⟨w2.heap.size, 1, none⟩) (by simp)).trans (Own.cell (Own.new w2 26 [.int .i64 0, .int .i64 0]) 1)); (have HB4 := Lib.hid (HB3.out.trans (hb3.mono (by simp; omega)))); clear k1 k2 hb3))
  go_returns
  exact ⟨rfl, HB4.out⟩
theorem syF_len (r : Int) (t : ByteArray) (hz : t.size ≤ 600 ∨ 65536 < t.size) : (syF r t).2.2.length ≤ 100000 := by
  unfold syF
  split
  · split
    · rename_i h0 h1
      have hs : t.size ≤ 600 := by omega
      have hk : ∀ (a : Nat) (r : Int) (l : List Sy), l.length ≤ a → a ≤ t.size → (syL r t a l).2.2.length ≤ t.size := by
        intro a
        induction hn : t.size - a using Nat.strongRecOn generalizing a with
        | _ n ih =>
          intro r l hl ha
          rw [syL]
          split
          · rename_i h
            obtain ⟨m, h1, h2, h3, h4⟩ := st_up h.1 h.2
            rw [h1, Int.toNat_natCast]
            have h5 := sk_ge t m
            have h6 := sk_le h3
            exact ih (t.size - sk t m) (by omega) (sk t m) rfl _ _ (by omega) h6
          · split
            · simp
            · simp only; omega
      have := hk (sk t 0) r [] (Nat.zero_le _) (sk_le (Nat.zero_le _))
      split
      · simp only [List.length_append, List.length_singleton]; omega
      · simp
    · simp
  · simp
end Go.Proofs.YtbnldpcbdeeflaaGreatDoor
