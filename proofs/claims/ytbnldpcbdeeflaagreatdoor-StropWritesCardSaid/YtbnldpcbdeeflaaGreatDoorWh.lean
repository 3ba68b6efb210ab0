/- A first symbol that has the whole text is followed by the end alone. No conditions. -/
import Derived.Test.YtbnldpcbdeeflaaGreatDoorFi
namespace Go.Proofs.YtbnldpcbdeeflaaGreatDoor
open Go.ChangeShapes Go.WideShapes Go.ChangeAt Go.RowKit

theorem sy_pre (t : ByteArray) : ∀ (n a : Nat) (r : Int) (l : List Sy), t.size - a ≤ n → (syL r t a l).2.1 = 0 → ∃ e, (syL r t a l).2.2 = l ++ e := by
  intro n
  induction n with
  | zero =>
    intro a r l h _
    rw [sy_end (by omega)]
    exact ⟨[], by simp⟩
  | succ n ih =>
    intro a r l h h0
    rcases Nat.lt_or_ge a t.size with ha | ha
    · by_cases hc : (stR r t a l).c = 0
      · obtain ⟨m, h1, h2, h3, h4⟩ := st_up ha hc
        rw [sy_go ha hc h1] at h0 ⊢
        have hk := sk_ge t m
        obtain ⟨e, he⟩ := ih (sk t m) (stR r t a l).r (stR r t a l).l (by omega) h0
        rcases st_add ha hc with e2 | ⟨s, _, e2⟩
        · exact ⟨e, by rw [he, e2]⟩
        · exact ⟨s :: e, by rw [he, e2]; simp⟩
      · rw [sy_bad ha hc] at h0
        exact absurd h0 hc
    · rw [sy_end ha]
      exact ⟨[], by simp⟩
theorem sy_head (t : ByteArray) (s : Sy) (rest : List Sy) : ∀ (n a : Nat) (r : Int), t.size - a ≤ n → (syL r t a []).2.1 = 0 → (syL r t a []).2.2 = s :: rest →
    ∃ (r' : Int) (a' m : Nat), a ≤ a' ∧ a' < t.size ∧ (stR r' t a' []).c = 0 ∧ (stR r' t a' []).a = (m : Int) ∧ m ≤ t.size ∧ (stR r' t a' []).l = [] ++ [s] ∧ syL r t a [] = syL (stR r' t a' []).r t (sk t m) [s] := by
  intro n
  induction n with
  | zero =>
    intro a r h _ hs
    rw [sy_end (by omega)] at hs
    cases hs
  | succ n ih =>
    intro a r h h0 hs
    rcases Nat.lt_or_ge a t.size with ha | ha
    · by_cases hc : (stR r t a []).c = 0
      · obtain ⟨m, h1, h2, h3, h4⟩ := st_up ha hc
        have hg := sy_go ha hc h1
        have hk := sk_ge t m
        rcases st_add ha hc with e2 | ⟨u, _, e2⟩
        · rw [e2] at hg
          rw [hg] at h0 hs
          obtain ⟨r', a', m', g1, g2, g3, g4, g5, g6, g7⟩ := ih (sk t m) (stR r t a []).r (by omega) h0 hs
          exact ⟨r', a', m', by omega, g2, g3, g4, g5, g6, hg.trans g7⟩
        · have e3 : (stR r t a []).l = [u] := e2
          rw [e3] at hg
          rw [hg] at h0 hs
          obtain ⟨e, he⟩ := sy_pre t (t.size) (sk t m) (stR r t a []).r [u] (by omega) h0
          rw [he] at hs
          have hu : u = s := (List.cons.inj hs).1
          subst hu
          exact ⟨r, a, m, Nat.le_refl _, ha, hc, h1, h3, e2, hg⟩
      · rw [sy_bad ha hc] at h0
        exact absurd h0 hc
    · rw [sy_end ha] at hs
      cases hs
/-- A first symbol that is as long as the text: it begins at 0, and the end alone is behind it. -/
theorem whole_text {t : ByteArray} {k q : Int} {x : ByteArray} {rest : List Sy} (h : (syF 0 t).2.2 = (k, x, q) :: rest) (hk : k ≠ 0)
    (hw : (k ≠ 6 ∧ k ≠ 7 ∧ x.size = t.size) ∨ (k = 7 ∧ x.size + 2 = t.size)) : syF 0 t = (0, 0, [(k, x, 0), (0, ⟨#[]⟩, (t.size : Int))]) := by
  unfold syF at h ⊢
  rw [if_pos ⟨Int.le_refl _, by decide⟩] at h ⊢
  by_cases hz : t.size ≤ 65536
  · rw [if_pos hz] at h ⊢
    by_cases hc : (syL 0 t (sk t 0) []).2.1 = 0
    · rw [if_pos hc] at h ⊢
      have h' : (syL 0 t (sk t 0) []).2.2 ++ [(0, ⟨#[]⟩, (t.size : Int))] = (k, x, q) :: rest := h
      cases hl : (syL 0 t (sk t 0) []).2.2 with
      | nil =>
        rw [hl] at h'
        have := congrArg (fun l => (l.map (·.1)).head?) h'
        simp at this
        exact absurd this.symm hk
      | cons s r2 =>
        rw [hl] at h'
        have hs : s = (k, x, q) := (List.cons.inj h').1
        subst hs
        obtain ⟨r', a', m, g1, g2, g3, g4, g5, g6, g7⟩ := sy_head t (k, x, q) r2 t.size (sk t 0) 0 (by omega) hc hl
        have hf := st_fit g2 g3 g6
        obtain ⟨f1, f2, f3⟩ := hf
        have hm : a' = 0 ∧ m = t.size := by
          rcases hw with ⟨w6, w7, w8⟩ | ⟨w7, w8⟩
          · have := f2 w6 w7
            rw [g4] at this
            simp only at this
            omega
          · have := f3 w7
            rw [g4] at this
            simp only at this
            omega
        obtain ⟨rfl, rfl⟩ := hm
        have hq : q = 0 := f1
        rw [sy_end (sk_ge t t.size)] at g7
        rw [← hl, g7, hq]
        rfl
    · rw [if_neg hc] at h; cases h
  · rw [if_neg hz] at h; cases h
end Go.Proofs.YtbnldpcbdeeflaaGreatDoor
