/- The reference's block, its faults and its list. Condition: its block and its list lie in blocks of the call's own. -/
import Derived.Test.YtbnldpcbdeeflaaGreatDoorRa
import Derived.Test.YtbnldpcbdeeflaaGreatDoorSt
namespace Go.Proofs.YtbnldpcbdeeflaaGreatDoor
open Go.ChangeShapes Go.WideShapes Go.ChangeAt Go.RowKit

/-- The reference's block: its text, its place, its regime, its list, its first error and where it is. -/
def Rc (w : World) (S : Nat) (t : ByteArray) (a r : Int) (v : Value) (e b : Int) : Prop := Own w S 49 [.string t, .int .i64 a, .int .i64 r, v, .int .i64 e, .int .i64 b]
theorem Rc.c0 {w : World} {S : Nat} {t : ByteArray} {a r : Int} {v : Value} {e b : Int} (h : Rc w S t a r v e b) : w.cell? ⟨S, 0, none⟩ = some (.string t) := Own.cell h 0
theorem Rc.c1 {w : World} {S : Nat} {t : ByteArray} {a r : Int} {v : Value} {e b : Int} (h : Rc w S t a r v e b) : w.cell? ⟨S, 1, none⟩ = some (.int .i64 a) := Own.cell h 1
theorem Rc.c2 {w : World} {S : Nat} {t : ByteArray} {a r : Int} {v : Value} {e b : Int} (h : Rc w S t a r v e b) : w.cell? ⟨S, 2, none⟩ = some (.int .i64 r) := Own.cell h 2
theorem Rc.c3 {w : World} {S : Nat} {t : ByteArray} {a r : Int} {v : Value} {e b : Int} (h : Rc w S t a r v e b) : w.cell? ⟨S, 3, none⟩ = some v := Own.cell h 3
theorem Rc.c4 {w : World} {S : Nat} {t : ByteArray} {a r : Int} {v : Value} {e b : Int} (h : Rc w S t a r v e b) : w.cell? ⟨S, 4, none⟩ = some (.int .i64 e) := Own.cell h 4
theorem Rc.lt {w : World} {S : Nat} {t : ByteArray} {a r : Int} {v : Value} {e b : Int} (h : Rc w S t a r v e b) : S < w.heap.size := Own.lt h
theorem Rc.kept {w w' : World} {S : Nat} {t : ByteArray} {a r : Int} {v : Value} {e b : Int} (h : Rc w S t a r v e b) (k : Below w.heap.size w w') : Rc w' S t a r v e b := Own.kept h k
theorem Rc.sl {w w' : World} {S B : Nat} {t : ByteArray} {a r : Int} {v : Value} {e b : Int} {l : List Sy} (h : Rc w S t a r v e b) (hL : Sl w B v l) (k : Below w.heap.size w w') : Sl w' B v l := hL.gb (Sl.ne hL h (by decide)) (Gb.of k)
theorem Rc.slgb {w w' : World} {S B : Nat} {t : ByteArray} {a r : Int} {v : Value} {e b : Int} {l : List Sy} (h : Rc w S t a r v e b) (hL : Sl w B v l) (k : Gb S w w') : Sl w' B v l := hL.gb (Sl.ne hL h (by decide)) k

theorem fail_new (S : Nat) (t : ByteArray) (a r : Int) (v : Value) (b c p : Int) (w : World) (hS : Rc w S t a r v 0 b) :
    Calls Tryz.prog 54 #[.pointer (some ⟨S, 0, none⟩), .int .i64 c, .int .i64 p] w fun x w' => x = .returned (.tuple #[]) ∧ Rc w' S t a r v c p ∧ Gb S w w' := by
  have c4 := hS.c4
  have hlt := hS.lt
  have fS := fun i => Own.frozen hS i
  have c5 : w.cell? ⟨S, 5, none⟩ = some (.int .i64 b) := Own.cell hS 5
  have HS := Lib.hid hS
  clear hS
  go_enter Tryz.func54, Tryz.ntmps54
  go_wp2
  go_returns
  exact ⟨rfl, (HS.out.put 4 (.int .i64 c)).put 5 (.int .i64 p), (by repeat' (first | (with_reducible assumption) | (with_reducible exact Gb.refl _ _) | (with_reducible refine Gb.alloc ?_ _) | (with_reducible refine Gb.set ?_ ?_ _) | (with_reducible refine Gb.drew ?_) | (with_reducible refine Gb.call ?_ (by assumption)) | (with_reducible exact Or.inl rfl) | (with_reducible exact Or.inr (Nat.le_refl _)) | omega | (simp; done) | (simp; omega)))⟩
theorem fail_old (S : Nat) (t : ByteArray) (a r : Int) (v : Value) (e b c p : Int) (w : World) (hS : Rc w S t a r v e b) (he : e ≠ 0) :
    Calls Tryz.prog 54 #[.pointer (some ⟨S, 0, none⟩), .int .i64 c, .int .i64 p] w fun x w' => x = .returned (.tuple #[]) ∧ w = w' := by
  have c4 := hS.c4
  have he2 : (e == 0) = false := by rw [beq_eq_false_iff_ne]; exact he
  clear hS he
  go_enter Tryz.func54, Tryz.ntmps54
  go_wp2
  go_returns
  exact ⟨rfl, rfl⟩
/-- append of one symbol to a list of the call's own. -/
theorem appS {ops : Array Oper} {rest : List Oper} {o : Oper} {a : Act} {Q : Exit → Act → World → Prop} (hgd : o.guard = none) (s x : Operand)
    (ho : o.op = .call { callee := .builtin .append, args := #[s, x], argTypes := #[23, 23] })
    (W : World) (B : Nat) (v : Value) (l : List Sy) (n : Sy) (hs : a.eval s = v) (hx : a.eval x = .slice (some ⟨W.heap.size, 0, none⟩) 1 1) (hown : Sl W B v l) (hl : l.length ≤ 1000000) (hB : B ≤ W.heap.size)
    (h : ∀ g' cap w', Sl w' B (.slice (some ⟨g', 0, none⟩) (l.length + 1) cap) (l ++ [n]) → (W.alloc (.cells #[.int .i64 n.1, .string n.2.1, .int .i64 n.2.2] 31)).grownBy w' v.ownBlock → wpList Tryz.prog ops Q rest (a.put o.dst (.slice (some ⟨g', 0, none⟩) (l.length + 1) cap)) w') :
    wpList Tryz.prog ops Q (o :: rest) a (W.alloc (.cells #[.int .i64 n.1, .string n.2.1, .int .i64 n.2.2] 31)) := by
  obtain ⟨i0, hi, hz0, hz1, hz2⟩ := info_parts sy_info
  refine wpList_append_own _ hgd s x 23 ho B _ i0 _ 3 32 Tryz.underlying23 hi hz0 hz1 hz2 rfl (by decide) v l.length (sy l) hs (hown.alloc _) ⟨W.heap.size, 0, none⟩ 1 1 [.int .i64 n.1, .string n.2.1, .int .i64 n.2.2] hx rfl ?_ ?_ (by unfold maxLen; omega) (by omega) (by simp; omega) ?_
  · intro j u hj
    have hg := Own.new W 31 [.int .i64 n.1, .string n.2.1, .int .i64 n.2.2]
    match j, hj with
    | 0, hj => obtain rfl := Option.some.inj hj; exact hg.cell 0
    | 1, hj => obtain rfl := Option.some.inj hj; exact hg.cell 1
    | 2, hj => obtain rfl := Option.some.inj hj; exact hg.cell 2
  · intro u hu
    simp at hu
    rcases hu with rfl | rfl | rfl <;> rfl
  · intro v' w' h1 h2 _
    obtain ⟨g', cap, rfl⟩ : ∃ g' cap, v' = .slice (some ⟨g', 0, none⟩) (l.length + 1) cap := by
      rcases h1.2 with ⟨_, h0⟩ | ⟨g', cap, cur, hv, _⟩
      · omega
      · exact ⟨g', cap, hv⟩
    refine h g' cap w' ?_ h2
    unfold Sl
    rw [List.length_append, List.length_singleton, sy_snoc]
    exact h1
set_option maxHeartbeats 2000000 in
theorem radd_any (B S : Nat) (t : ByteArray) (a r : Int) (v : Value) (e b k p z : Int) (x : ByteArray) (l : List Sy) (w : World) (hS : Rc w S t a r v e b) (hL : Sl w B v l) (hB : B ≤ S) (hl : l.length ≤ 1000000) :
    Calls Tryz.prog 58 #[.pointer (some ⟨S, 0, none⟩), .int .i64 k, .string x, .int .i64 p, .int .i64 z] w fun y w' => y = .returned (.tuple #[]) ∧ (∃ v', Rc w' S t z r v' e b ∧ Sl w' B v' (l ++ [(k, x, p)])) ∧ Below B w w' ∧ Ot S v w w' := by
  have hlt := hS.lt
  have hne := Sl.ne hL hS (by decide)
  have hBw : B ≤ w.heap.size := by omega
  have c3 := hS.c3
  have fS := fun i => Own.frozen hS i
  have HS := Lib.hid hS
  have HL := Lib.hid hL
  have HV : Hid (∀ k, v.ownBlock = some k → B ≤ k ∧ k < w.heap.size) := Lib.hid (fun k hk => World.ownsRow.lt hL k hk)
  have HN := Lib.hid hne
  clear hS hL hne
  go_enter Tryz.func58, Tryz.ntmps58
  go_wp2_with (at_builtin; refine appS rfl _ _ rfl w B v l (k, x, p) ?_ ?_ HL.out hl hBw ?_; rfl; rfl; intro g2 cap2 w2 hs2 hg2; (have hz2 := hg2.size); (simp only [World.size_alloc] at hz2); (have hS2 := Own.grown (Own.alloc HS.out _) hg2 HN.out); (have d3 : w2.cell? ⟨S, 3, none⟩ = some v := Own.cell hS2 3); (have d1 : w2.cell? ⟨S, 1, none⟩ = some (.int .i64 a) := Own.cell hS2 1); (have f3 := fun i => Own.frozen hS2 i); (have HS2 := Lib.hid hS2); clear hS2)
  go_returns
  refine ⟨rfl, ⟨.slice (some ⟨g2, 0, none⟩) (l.length + 1) cap2, ?_, ?_⟩, ?_, ?_⟩
  · exact (HS2.out.put 3 (.slice (some ⟨g2, 0, none⟩) (l.length + 1) cap2)).put 1 (.int .i64 z)
  · have n1 := Sl.ne hs2 HS2.out (by decide)
    exact (hs2.far n1 _).far n1 _
  · have hb : Below B w w2 := ((Below.refl B w).alloc hBw _).grown hg2 (by simp; omega) (fun k hk => (HV.out k hk).1)
    exact (hb.setCell (p := ⟨S, 3, none⟩) hB _).setCell (p := ⟨S, 1, none⟩) hB _
  · intro g hg h1 h2
    exact (Below.heap_setCell _ ⟨S, 1, none⟩ _ g h1).trans ((Below.heap_setCell w2 ⟨S, 3, none⟩ _ g h1).trans ((hg2.block g (by simp; omega) (fun e => h2 e.symm)).trans (Below.heap_alloc w _ g hg)))
end Go.Proofs.YtbnldpcbdeeflaaGreatDoor
