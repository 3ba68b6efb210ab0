/- One more symbol in the scanner's list. Condition: the scanner's block and its list lie in blocks of the call's own. -/
import Derived.Test.YtbnldpcbdeeflaaGreatDoorCm
import Derived.OwnWalk
import Derived.OneCell
import Derived.Lib.Builder
import Derived.Deep.RegionLaw
import Derived.Deep.Cut
namespace Go.Proofs.YtbnldpcbdeeflaaGreatDoor
open Go.ChangeShapes Go.WideShapes Go.ChangeAt Go.RowKit

/-- A symbol: its kind, its text and where it begins; and the cells of symbols. -/
abbrev Sy := Int × ByteArray × Int
def sy (l : List Sy) : List Value := l.flatMap fun s => [.int .i64 s.1, .string s.2.1, .int .i64 s.2.2]
theorem sy_snoc (l : List Sy) (s : Sy) : sy (l ++ [s]) = sy l ++ [.int .i64 s.1, .string s.2.1, .int .i64 s.2.2] := by unfold sy; simp
/-- The scanner's list of symbols. -/
def Sl (w : World) (B : Nat) (v : Value) (l : List Sy) : Prop := w.ownsRow B 31 3 v l.length (sy l)
theorem Sl.alloc {w : World} {B : Nat} {v : Value} {l : List Sy} (h : Sl w B v l) (o : Obj) : Sl (w.alloc o) B v l := World.ownsRow.alloc h o
theorem Sl.drew {w : World} {B : Nat} {v : Value} {l : List Sy} (h : Sl w B v l) : Sl w.drew B v l := World.ownsRow.drew h
theorem Sl.ne {w : World} {B g : Nat} {T : TypeId} {c : List Value} {v : Value} {l : List Sy} (h : Sl w B v l) (hS : Own w g T c) (hT : T ≠ 31) : v.ownBlock ≠ some g := by
  unfold Sl at h
  unfold Own at hS
  rcases h.2 with ⟨rfl, _⟩ | ⟨b, cap, cur, rfl, _, hg, _⟩
  · simp [Value.ownBlock]
  · intro he
    simp only [Value.ownBlock, Option.some.injEq] at he
    subst he
    rw [hg] at hS
    simp at hS
    exact hT hS.2.symm
theorem Sl.far {w : World} {B : Nat} {v : Value} {l : List Sy} (h : Sl w B v l) {p : Addr} (hp : v.ownBlock ≠ some p.block) (u : Value) : Sl (w.setCell p u) B v l := ownsRow_setCell_other h hp u
theorem sy_info : (Tryz.prog.info? 31).map (fun i => (i.zero, i.size, i.bytes)) = some (some (.agg #[.int .i64 0, .string ⟨#[]⟩, .int .i64 0]), 3, 32) := by kernel_rfl
/-- append of one symbol, as a step of a region that draws. -/
theorem stepS {ops : Array Oper} {o : Oper} {a : Act} {w : World} {K : Act → World → Prop} {Q : Exit → Act → World → Prop} {E : Prop} (hgd : o.guard = none) (s x : Operand)
    (ho : o.op = .call { callee := .builtin .append, args := #[s, x], argTypes := #[23, 23] })
    (B : Nat) (v : Value) (l : List Sy) (hs : a.eval s = v) (hown : Sl w B v l) (g : Nat) (n : Sy) (hx : a.eval x = .slice (some ⟨g, 0, none⟩) 1 1) (hg : Own w g 31 [.int .i64 n.1, .string n.2.1, .int .i64 n.2.2]) (hl : l.length ≤ 1000000) (hB : B ≤ w.heap.size)
    (h : ∀ g' cap w', Sl w' B (.slice (some ⟨g', 0, none⟩) (l.length + 1) cap) (l ++ [n]) → w.grownBy w' v.ownBlock → K (a.put o.dst (.slice (some ⟨g', 0, none⟩) (l.length + 1) cap)) w') :
    if Region.wanted o (yielded ops a.tmps) = true then Oper.wp Tryz.prog o a w K Q else E := by
  have hw : Region.wanted o (yielded ops a.tmps) = true := by simp [Region.wanted, hgd]
  rw [if_pos hw]
  obtain ⟨i0, hi, hz0, hz1, hz2⟩ := info_parts sy_info
  refine wp_append_own w s x _ ho B _ i0 _ 3 32 Tryz.underlying23 hi hz0 hz1 hz2 rfl (by decide) v l.length (sy l) hs hown ⟨g, 0, none⟩ 1 1 [.int .i64 n.1, .string n.2.1, .int .i64 n.2.2] hx rfl ?_ ?_ (by unfold maxLen; omega) (by omega) hB ?_
  · intro j u hj
    match j, hj with
    | 0, hj => obtain rfl := Option.some.inj hj; exact hg.cell 0
    | 1, hj => obtain rfl := Option.some.inj hj; exact hg.cell 1
    | 2, hj => obtain rfl := Option.some.inj hj; exact hg.cell 2
  · intro u hu
    simp at hu
    rcases hu with rfl | rfl | rfl <;> rfl
  · intro v' w' h1 h2 _
    obtain ⟨g', cap, rfl⟩ : ∃ g' cap, v' = .slice (some ⟨g', 0, none⟩) (l.length + 1) cap := by
      rcases h1.2 with ⟨_, h0⟩ | ⟨g', cap, cur, hv, _⟩
      · omega
      · exact ⟨g', cap, hv⟩
    refine h g' cap w' ?_ h2
    unfold Sl
    rw [List.length_append, List.length_singleton, sy_snoc]
    exact h1
theorem Own.grown {w w' : World} {g : Nat} {t : TypeId} {l : List Value} {row : Option Nat} (h : Own w g t l) (hg : w.grownBy w' row) (hne : row ≠ some g) : Own w' g t l := (hg.block g h.lt (fun e => hne e.symm)).trans h

/-- All blocks but S and the list's are as they were. -/
def Ot (S : Nat) (v : Value) (w w' : World) : Prop := ∀ g, g < w.heap.size → g ≠ S → v.ownBlock ≠ some g → w'.heap[g]? = w.heap[g]?
theorem Own.ot {w w' : World} {S g : Nat} {v : Value} {T : TypeId} {c : List Value} (h : Own w g T c) (o : Ot S v w w') (h1 : g ≠ S) (h2 : v.ownBlock ≠ some g) : Own w' g T c := (o g h.lt h1 h2).trans h
set_option maxHeartbeats 4000000 in
set_option maxRecDepth 100000 in
theorem add_any (B S : Nat) (t : ByteArray) (r a k to : Int) (x : ByteArray) (v : Value) (l : List Sy) (w : World) (hS : Sc w S t r a v) (hL : Sl w B v l) (hB : B ≤ S) (hl : l.length ≤ 1000000) :
    Calls Tryz.prog 80 #[.pointer (some ⟨S, 0, none⟩), .int .i64 k, .string x, .int .i64 to] w fun e w' => e = .returned (.agg #[.int .i64 0, .int .i64 0]) ∧ (∃ v', Sc w' S t r to v' ∧ Sl w' B v' (l ++ [(k, x, a)])) ∧ Below B w w' ∧ Ot S v w w' := by
  have hlt := hS.lt
  have hne := Sl.ne hL hS (by decide)
  have hBw : B ≤ w.heap.size := by omega
  have c2 := hS.c2
  have c3 := hS.c3
  have HS := Lib.hid hS
  have HL := Lib.hid hL
  have HV : Hid (∀ k, v.ownBlock = some k → B ≤ k ∧ k < w.heap.size) := Lib.hid (fun k hk => World.ownsRow.lt hL k hk)
  have HN := Lib.hid hne
  clear hS hL hne
  go_enter Tryz.func80, Tryz.ntmps80
  go_upto_region 1 with fail
  have fS := fun i => Own.frozen HS.out i
  go_region_law ((refine stepS rfl (.tmp 13) (.tmp 21) rfl B v l rfl ?_ (w.heap.size + 1) (k, x, a) rfl ?_ hl ?_ ?_); (focus (repeat' (first | (with_reducible exact HL.out) | (with_reducible refine Sl.alloc ?_ _) | (with_reducible refine Sl.drew ?_)))); (focus (exact Own.new' (l := [.int .i64 k, .string x, .int .i64 a]) (by simp))); (focus (simp; omega)); intro g2 cap2 w2 hs2 hg2; (have hz2 := hg2.size); (have hS2 := Own.grown (((Own.alloc HS.out _).drew).alloc _) hg2 HN.out); (have d3 : w2.cell? ⟨S, 3, none⟩ = some v := Own.cell hS2 3); (have f3 := fun i => Own.frozen hS2 i); (have hR2 : Own w2 w.heap.size 26 [.int .i64 0, .int .i64 0] := Own.grown (((Own.new w _ _).drew).alloc _) hg2 (fun e => absurd (HV.out _ e).2 (Nat.lt_irrefl _))); have HS2 := Lib.hid hS2; have HR2 := Lib.hid hR2; clear hS2 hR2)
  all_goals
    have e0 : w2.cell? ⟨w.heap.size, 0, none⟩ = some (.int .i64 0) := Own.cell HR2.out 0
    have e1 : w2.cell? ⟨w.heap.size, 1, none⟩ = some (.int .i64 0) := Own.cell HR2.out 1
    have f0 := fun i => Own.frozen HR2.out i
    have d2 : w2.cell? ⟨S, 2, none⟩ = some (.int .i64 a) := Own.cell HS2.out 2
    have hne2 : S ≠ w.heap.size := by omega
    (try simp only [World.size_alloc] at hz2)
    go_wp2_with fail
    have hF := (((HR2.out.far (p := ⟨S, 3, none⟩) (fun e => hne2 e.symm) (.slice (some ⟨g2, 0, none⟩) (l.length + 1) cap2)).far (p := ⟨S, 2, none⟩) (fun e => hne2 e.symm) (.int .i64 to)).put 0 (.int .i64 0)).put 1 (.int .i64 0)
    refine bodyPost_ret (ret_own rfl hF rfl Tryz.underlying26 rfl (by kernel_rfl)) rfl ?_
    refine ⟨rfl, ⟨.slice (some ⟨g2, 0, none⟩) (l.length + 1) cap2, ?_, ?_⟩, ?_, ?_⟩
    · exact (((HS2.out.put 3 (.slice (some ⟨g2, 0, none⟩) (l.length + 1) cap2)).put 2 (.int .i64 to)).far hne2 _).far hne2 _
    · have n1 := Sl.ne hs2 HS2.out (by decide)
      have n2 := Sl.ne hs2 HR2.out (by decide)
      exact (((hs2.far n1 _).far n1 _).far n2 _).far n2 _
    · have hb : Below B w w2 := (((Below.refl B w).alloc hBw _).drew.alloc (by simp; omega) _).grown hg2 (by simp; omega) (fun k hk => (HV.out k hk).1)
      exact (((hb.setCell (p := ⟨S, 3, none⟩) hB _).setCell (p := ⟨S, 2, none⟩) hB _).setCell (p := ⟨w.heap.size, 0, none⟩) hBw _).setCell (p := ⟨w.heap.size, 1, none⟩) hBw _
    · intro g hg h1 h2
      have n1 : g ≠ w.heap.size := by omega
      exact (Below.heap_setCell _ ⟨w.heap.size, 1, none⟩ _ g n1).trans ((Below.heap_setCell _ ⟨w.heap.size, 0, none⟩ _ g n1).trans ((Below.heap_setCell _ ⟨S, 2, none⟩ _ g h1).trans ((Below.heap_setCell w2 ⟨S, 3, none⟩ _ g h1).trans ((hg2.block g (by simp; omega) (fun e => h2 e.symm)).trans ((Below.heap_alloc (World.drew (w.alloc (.cells #[.int .i64 0, .int .i64 0] 26))) _ g (by simp [sz_drew]; omega)).trans (Below.heap_alloc w (.cells #[.int .i64 0, .int .i64 0] 26) g hg))))))
end Go.Proofs.YtbnldpcbdeeflaaGreatDoor
