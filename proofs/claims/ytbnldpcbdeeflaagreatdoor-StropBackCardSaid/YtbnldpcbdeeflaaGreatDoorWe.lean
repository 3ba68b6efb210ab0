/- alike reports true of symbols that are alike but for At. No condition but that they are few. -/
import Derived.Test.YtbnldpcbdeeflaaGreatDoorLb
import Derived.Test.YtbnldpcbdeeflaaGreatDoorHv
namespace Go.Proofs.YtbnldpcbdeeflaaGreatDoor
open Go.ChangeShapes Go.WideShapes Go.ChangeAt Go.RowKit

theorem alf_any (k : Int) (x : ByteArray) (p q : Int) (w : World) : Calls Tryz.prog 32 #[.agg #[.int .i64 k, .string x, .int .i64 p], .agg #[.int .i64 k, .string x, .int .i64 q]] w fun e w' => e = .returned (.bool true) ∧ Below w.heap.size w w' := by
  go_enter Tryz.func32, Tryz.ntmps32
  go_wp2
  go_returns
  exact ⟨rfl, (by repeat' (first | (with_reducible assumption) | (with_reducible exact Below.refl _ _) | (with_reducible refine Below.alloc ?_ ?_ _) | (with_reducible refine Below.setCell ?_ ?_ _) | (with_reducible refine Below.drew ?_) | (with_reducible refine Below.call ?_ ?_ (by assumption)) | (with_reducible exact Nat.le_refl _) | omega | (simp; done) | (simp; omega)))⟩
theorem er_len {l m : List Sy} (h : er l = er m) : l.length = m.length := by
  have := congrArg List.length h
  simpa [er] using this
theorem er_at {l m : List Sy} (h : er l = er m) (i : Nat) {s u : Sy} (hs : l[i]? = some s) (hu : m[i]? = some u) : s.1 = u.1 ∧ s.2.1 = u.2.1 := by
  have := congrArg (fun z => z[i]?) h
  simp only [er, List.getElem?_map, hs, hu, Option.map_some, Option.some.injEq, Prod.mk.injEq] at this
  exact this
set_option maxRecDepth 100000 in
set_option maxHeartbeats 4000000 in
theorem eqf_some (g1 g2 c1 c2 : Nat) (l m : List Sy) (w : World) (he : er l = er m) (hl : l.length ≤ 1000000) (hc1 : l.length ≤ c1) (hc2 : m.length ≤ c2) (h1 : g1 < w.heap.size) (h2 : g2 < w.heap.size) (q1 : ∀ j u, (sy l)[j]? = some u → w.cell? ⟨g1, j, none⟩ = some u) (q2 : ∀ j u, (sy m)[j]? = some u → w.cell? ⟨g2, j, none⟩ = some u) :
    Calls Tryz.prog 31 #[.slice (some ⟨g1, 0, none⟩) l.length c1, .slice (some ⟨g2, 0, none⟩) m.length c2, .func (.func 32) #[] #[]] w fun e w' => e = .returned (.bool true) ∧ Below w.heap.size w w' := by
  have HQ1 := Lib.hid q1
  have HQ2 := Lib.hid q2
  have HE := Lib.hid he
  have hlm := er_len he
  rw [← hlm] at hc2 ⊢
  have HLM := Lib.hid hlm
  clear q1 q2 he hlm
  go_enter Tryz.func31, Tryz.ntmps31
  go_wp2
  go_loopw [17] (fun v13 wr => ∃ i : Nat, i ≤ l.length ∧ v13 = .int .i64 i ∧ Below w.heap.size w wr) (fun v13 _ => l.length - (intOf v13).toNat)
  case atStart => exact ⟨0, Nat.zero_le _, rfl, Below.refl _ w⟩
  case round =>
    obtain ⟨i, hi, rfl, hb⟩ := hrel
    have HB := Lib.hid hb
    by_cases hil : i < l.length
    · obtain ⟨s, hs⟩ : ∃ s, l[i]? = some s := ⟨l[i], List.getElem?_eq_getElem hil⟩
      obtain ⟨u, hu⟩ : ∃ u, m[i]? = some u := ⟨m[i]'(by rw [← HLM.out]; exact hil), List.getElem?_eq_getElem (by rw [← HLM.out]; exact hil)⟩
      obtain ⟨s1, s2, s3⟩ := sy_at l i s hs
      obtain ⟨u1, u2, u3⟩ := sy_at m i u hu
      obtain ⟨y1, y2⟩ := er_at HE.out i hs hu
      have a0 : wr.cell? ⟨g1, i * 3, none⟩ = some (.int .i64 s.1) := (hb.cell (p := ⟨g1, i * 3, none⟩) h1).trans (HQ1.out _ _ s1)
      have a1 : wr.cell? ⟨g1, i * 3 + 1, none⟩ = some (.string s.2.1) := (hb.cell (p := ⟨g1, i * 3 + 1, none⟩) h1).trans (HQ1.out _ _ s2)
      have a2 : wr.cell? ⟨g1, i * 3 + 2, none⟩ = some (.int .i64 s.2.2) := (hb.cell (p := ⟨g1, i * 3 + 2, none⟩) h1).trans (HQ1.out _ _ s3)
      have b0 : wr.cell? ⟨g2, i * 3, none⟩ = some (.int .i64 u.1) := (hb.cell (p := ⟨g2, i * 3, none⟩) h2).trans (HQ2.out _ _ u1)
      have b1 : wr.cell? ⟨g2, i * 3 + 1, none⟩ = some (.string u.2.1) := (hb.cell (p := ⟨g2, i * 3 + 1, none⟩) h2).trans (HQ2.out _ _ u2)
      have b2 : wr.cell? ⟨g2, i * 3 + 2, none⟩ = some (.int .i64 u.2.2) := (hb.cell (p := ⟨g2, i * 3 + 2, none⟩) h2).trans (HQ2.out _ _ u3)
      rw [← y1] at b0
      rw [← y2] at b1
      obtain ⟨k, x, p⟩ := s
      obtain ⟨k2, x2, p2⟩ := u
      simp only at a0 a1 a2 b0 b1 b2
      have hz := hb.size
      have e0 := fun o => (World.cell_alloc_old wr o (Nat.lt_of_lt_of_le h2 hz) (i * 3)).trans b0
      have e1 := fun o => (World.cell_alloc_old wr o (Nat.lt_of_lt_of_le h2 hz) (i * 3 + 1)).trans b1
      have e2 := fun o => (World.cell_alloc_old wr o (Nat.lt_of_lt_of_le h2 hz) (i * 3 + 2)).trans b2
      clear b0 b1 b2 hb hs hu s1 s2 s3 u1 u2 u3 y1 y2
      go_wp2_with (go_at_call 32; (with_reducible refine (alf_any k x p p2 _).mono ?_); (rintro e w1 ⟨rfl, hb1⟩); (have hz1 := hb1.size); (simp only [World.size_alloc] at hz1); (have HB1 : Hid (Below w.heap.size w w1) := Lib.hid (((HB.out.alloc hz _).alloc (by simp; omega) _).trans (hb1.mono (by simp; omega)))); clear hb1)
      go_roundw
      case rel => exact ⟨i + 1, hil, by go_num, HB1.out⟩
      case measure => simp [intOf]; omega
    · have hie : i = l.length := by omega
      subst hie
      clear hb
      go_wp2
      go_returns
      exact ⟨rfl, HB.out⟩
theorem eqf_na (g c : Nat) (w : World) (hc : 0 ≤ c) :
    Calls Tryz.prog 31 #[.slice none 0 0, .slice none 0 0, .func (.func 32) #[] #[]] w fun e w' => e = .returned (.bool true) ∧ Below w.heap.size w w' := by
  go_enter Tryz.func31, Tryz.ntmps31
  go_wp2
  go_loop [17] (fun v13 => v13 = .int .i64 0) (fun _ => 0)
  case atStart => rfl
  case round =>
    obtain rfl := hrel
    go_wp2
    go_returns
    exact ⟨rfl, Below.refl _ _⟩
theorem eqf_nb (g c : Nat) (w : World) (hc : 0 ≤ c) :
    Calls Tryz.prog 31 #[.slice none 0 0, .slice (some ⟨g, 0, none⟩) 0 c, .func (.func 32) #[] #[]] w fun e w' => e = .returned (.bool true) ∧ Below w.heap.size w w' := by
  go_enter Tryz.func31, Tryz.ntmps31
  go_wp2
  go_loop [17] (fun v13 => v13 = .int .i64 0) (fun _ => 0)
  case atStart => rfl
  case round =>
    obtain rfl := hrel
    go_wp2
    go_returns
    exact ⟨rfl, Below.refl _ _⟩
theorem eqf_nc (g c : Nat) (w : World) (hc : 0 ≤ c) :
    Calls Tryz.prog 31 #[.slice (some ⟨g, 0, none⟩) 0 c, .slice none 0 0, .func (.func 32) #[] #[]] w fun e w' => e = .returned (.bool true) ∧ Below w.heap.size w w' := by
  go_enter Tryz.func31, Tryz.ntmps31
  go_wp2
  go_loop [17] (fun v13 => v13 = .int .i64 0) (fun _ => 0)
  case atStart => rfl
  case round =>
    obtain rfl := hrel
    go_wp2
    go_returns
    exact ⟨rfl, Below.refl _ _⟩
theorem eqf_any (B1 B2 : Nat) (v1 v2 : Value) (l m : List Sy) (w : World) (he : er l = er m) (hl : l.length ≤ 1000000) (h1 : Sl w B1 v1 l) (h2 : Sl w B2 v2 m) :
    Calls Tryz.prog 31 #[v1, v2, .func (.func 32) #[] #[]] w fun e w' => e = .returned (.bool true) ∧ Below w.heap.size w w' := by
  have hlm := er_len he
  rcases Sl.form2 h1 with ⟨rfl, rfl⟩ | ⟨g1, c1, rfl, hc1, hg1, q1⟩ <;> rcases Sl.form2 h2 with ⟨rfl, h0⟩ | ⟨g2, c2, rfl, hc2, hg2, q2⟩
  · exact eqf_na 0 0 w (Nat.le_refl _)
  · have : m.length = 0 := hlm.symm
    rw [this]
    exact eqf_nb g2 c2 w (Nat.zero_le _)
  · rw [h0] at hlm
    have : l.length = 0 := hlm
    rw [this]
    exact eqf_nc g1 c1 w (Nat.zero_le _)
  · exact eqf_some g1 g2 c1 c2 l m w he hl hc1 hc2 hg1 hg2 q1 q2
theorem alike_any (B1 B2 : Nat) (v1 v2 : Value) (l m : List Sy) (w : World) (he : er l = er m) (hl : l.length ≤ 1000000) (h1 : Sl w B1 v1 l) (h2 : Sl w B2 v2 m) :
    Calls Tryz.prog 18 #[v1, v2] w fun e w' => e = .returned (.bool true) ∧ Below w.heap.size w w' := by
  have H := Lib.hid (eqf_any B1 B2 v1 v2 l m w he hl h1 h2)
  clear he hl h1 h2
  go_enter Tryz.func18, Tryz.ntmps18
  go_wp2_with (go_at_call 31; (with_reducible refine H.out.mono ?_); (rintro e w1 ⟨rfl, hb1⟩))
  go_returns
  exact ⟨rfl, hb1⟩
end Go.Proofs.YtbnldpcbdeeflaaGreatDoor
