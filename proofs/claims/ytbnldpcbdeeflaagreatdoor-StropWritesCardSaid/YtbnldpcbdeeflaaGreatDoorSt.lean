/- What a step of the scanner leaves, and short names. Condition: the scanner's block and its list lie in blocks of the call's own. -/
import Derived.Test.YtbnldpcbdeeflaaGreatDoorAd
import Derived.Test.YtbnldpcbdeeflaaGreatDoorBd
namespace Go.Proofs.YtbnldpcbdeeflaaGreatDoor
open Go.ChangeShapes Go.WideShapes Go.ChangeAt Go.RowKit

/-- What a step leaves: its regime, its place and its list, and what is returned: where, and the code. -/
structure Rs where
  r : Int
  a : Int
  l : List Sy
  p : Int
  c : Int
/-- All blocks but S and the old list's are as they were. -/
def Kp (S : Nat) (w w' : World) : Prop := ∀ v, w.cell? ⟨S, 3, none⟩ = some v → Ot S v w w'
theorem Kp.gb {S : Nat} {w w' : World} (h : Gb S w w') : Kp S w w' := fun _ _ g hg h1 _ => h.block g hg (fun e => h1 (Option.some.inj e))
theorem Kp.add {S : Nat} {t : ByteArray} {r a : Int} {v : Value} {w W w3 : World} (hS : Sc w S t r a v) (hb : Below w.heap.size w W) (ho : Ot S v W w3) (u0 u1 : Value) : Kp S w ((w3.setCell ⟨w.heap.size, 0, none⟩ u0).setCell ⟨w.heap.size, 1, none⟩ u1) := by
  intro v0 h0 g hg h1 h2
  have hv : v0 = v := Option.some.inj (h0.symm.trans hS.c3)
  subst hv
  have n1 : g ≠ w.heap.size := by omega
  have hz := hb.size
  exact (Below.heap_setCell _ ⟨w.heap.size, 1, none⟩ _ g n1).trans ((Below.heap_setCell _ ⟨w.heap.size, 0, none⟩ _ g n1).trans ((ho g (by omega) h1 h2).trans (hb.block g hg)))
def Stp (B S : Nat) (t : ByteArray) (w : World) (R : Rs) (x : Ending) (w' : World) : Prop :=
  x = .returned (.agg #[.int .i64 R.p, .int .i64 R.c]) ∧ (∃ v, Sc w' S t R.r R.a v ∧ Sl w' B v R.l) ∧ Below B w w' ∧ Kp S w w'
theorem Sl.gb {w w' : World} {B S : Nat} {v : Value} {l : List Sy} (h : Sl w B v l) (hne : v.ownBlock ≠ some S) (g : Gb S w w') : Sl w' B v l :=
  World.ownsRow.kept h g (Or.inr hne)
theorem Stp.gb {B S : Nat} {t : ByteArray} {w w' : World} {r a r' a' p c : Int} {v : Value} {l : List Sy} {x : Ending} (hS : Sc w S t r a v) (hL : Sl w B v l) (hB : B ≤ S) (hx : x = .returned (.agg #[.int .i64 p, .int .i64 c])) (h' : Sc w' S t r' a' v) (g : Gb S w w') : Stp B S t w ⟨r', a', l, p, c⟩ x w' :=
  ⟨hx, ⟨v, h', hL.gb (Sl.ne hL hS (by decide)) g⟩, g.below hB (by have := hS.lt; omega), Kp.gb g⟩
theorem Sc.gb {w w' : World} {S : Nat} {t : ByteArray} {r a : Int} {v : Value} (h : Sc w S t r a v) (k : Below w.heap.size w w') : Sc w' S t r a v := Own.kept h k

/-- What a short name leaves. -/
def shR (r a z k : Int) (x : ByteArray) (l : List Sy) : Rs := if 40 < x.size then ⟨r, a, l, a, 3⟩ else ⟨r, z, l ++ [(k, x, a)], 0, 0⟩
set_option maxHeartbeats 2000000 in
theorem short_no (S : Nat) (t : ByteArray) (r a k z : Int) (x : ByteArray) (v : Value) (w : World) (hS : Sc w S t r a v) (hx : 40 < x.size) (hx2 : x.size ≤ 200000) :
    Calls Tryz.prog 48 #[.pointer (some ⟨S, 0, none⟩), .int .i64 k, .string x, .int .i64 z] w fun e w' => e = .returned (.agg #[.int .i64 a, .int .i64 3]) ∧ Sc w' S t r a v ∧ Gb S w w' := by
  have c2 := hS.c2
  have hlt := hS.lt
  have HF := Lib.hid (fun e W hb => fault_at c2 e W hb)
  have HS := Lib.hid hS
  clear hS c2
  go_enter Tryz.func48, Tryz.ntmps48
  go_wp2_with (first | (go_at_call 78; (with_reducible refine (HF.out 3 _ (by repeat' (first | (with_reducible assumption) | (with_reducible exact Below.refl _ _) | (with_reducible refine Below.alloc ?_ ?_ _) | (with_reducible refine Below.setCell ?_ ?_ _) | (with_reducible refine Below.drew ?_) | (with_reducible refine Below.call ?_ ?_ (by assumption)) | (with_reducible exact Nat.le_refl _) | omega | (simp; done) | (simp; omega)))).mono ?_); rintro e w1 ⟨rfl, hb1⟩; obtain ⟨hc1, hf1⟩ := bcell hb1; have hz1 := hb1.size; (try simp only [World.size_alloc] at hz1); (try simp only [sz_drew] at hz1)))
  have hF := (((Own.new w 26 [.int .i64 0, .int .i64 0]).kept hb1).put 0 (.int .i64 a)).put 1 (.int .i64 3)
  refine bodyPost_ret (ret_own rfl hF rfl Tryz.underlying26 rfl (by kernel_rfl)) rfl ?_
  exact ⟨rfl, ((((Own.alloc HS.out _).kept hb1).far (by simp; omega) _).far (by simp; omega) _), (by repeat' (first | (with_reducible assumption) | (with_reducible exact Gb.refl _ _) | (with_reducible refine Gb.alloc ?_ _) | (with_reducible refine Gb.set ?_ ?_ _) | (with_reducible refine Gb.drew ?_) | (with_reducible refine Gb.call ?_ (by assumption)) | (with_reducible exact Or.inl rfl) | (with_reducible exact Or.inr (Nat.le_refl _)) | omega | (simp; done) | (simp; omega)))⟩
set_option maxHeartbeats 2000000 in
theorem short_yes (B S : Nat) (t : ByteArray) (r a k z : Int) (x : ByteArray) (v : Value) (l : List Sy) (w : World) (hS : Sc w S t r a v) (hL : Sl w B v l) (hB : B ≤ S) (hl : l.length ≤ 1000000) (hx : x.size ≤ 40) :
    Calls Tryz.prog 48 #[.pointer (some ⟨S, 0, none⟩), .int .i64 k, .string x, .int .i64 z] w (Stp B S t w ⟨r, z, l ++ [(k, x, a)], 0, 0⟩) := by
  have hlt := hS.lt
  have HA := Lib.hid (add_any B S t r a k z x v l (w.alloc (.cells #[.int .i64 0, .int .i64 0] 26)) (Own.alloc hS _) (hL.alloc _) hB hl)
  have HNV : Hid (v.ownBlock ≠ some w.heap.size) := Lib.hid (fun e => absurd (World.ownsRow.lt hL _ e).2 (Nat.lt_irrefl _))
  have HS := Lib.hid hS
  clear hS hL hl
  go_enter Tryz.func48, Tryz.ntmps48
  go_wp2_with (go_at_call 80; (with_reducible refine HA.out.mono ?_))
  rintro e w1 ⟨rfl, ⟨v1, hS1, hL1⟩, hb1, ho1⟩
  have hz1 := hb1.size
  simp only [World.size_alloc] at hz1
  have hR1 := (Own.new w 26 [.int .i64 0, .int .i64 0]).ot ho1 (by omega) HNV.out
  have e0 : w1.cell? ⟨w.heap.size, 0, none⟩ = some (.int .i64 0) := Own.cell hR1 0
  have e1 : w1.cell? ⟨w.heap.size, 1, none⟩ = some (.int .i64 0) := Own.cell hR1 1
  have f0 := fun i => Own.frozen hR1 i
  have HR1 := Lib.hid hR1
  have HS1 := Lib.hid hS1
  have HL1 := Lib.hid hL1
  have hne2 : S ≠ w.heap.size := by omega
  clear hR1 hS1 hL1
  go_wp2_with fail
  have hF := (HR1.out.put 0 (.int .i64 0)).put 1 (.int .i64 0)
  refine bodyPost_ret (ret_own rfl hF rfl Tryz.underlying26 rfl (by kernel_rfl)) rfl ?_
  have n2 := Sl.ne HL1.out HR1.out (by decide)
  exact ⟨rfl, ⟨v1, (Own.far HS1.out hne2 _).far hne2 _, (HL1.out.far n2 _).far n2 _⟩, ((((Below.refl B w).alloc (by omega) _).trans hb1).setCell (p := ⟨w.heap.size, 0, none⟩) (by show B ≤ w.heap.size; omega) _).setCell (p := ⟨w.heap.size, 1, none⟩) (by show B ≤ w.heap.size; omega) _, Kp.add HS.out ((Below.refl w.heap.size w).alloc (Nat.le_refl _) _) ho1 _ _⟩
theorem short_any (B S : Nat) (t : ByteArray) (r a k z : Int) (x : ByteArray) (v : Value) (l : List Sy) (w : World) (hS : Sc w S t r a v) (hL : Sl w B v l) (hB : B ≤ S) (hl : l.length ≤ 1000000) (hx : x.size ≤ 200000) :
    Calls Tryz.prog 48 #[.pointer (some ⟨S, 0, none⟩), .int .i64 k, .string x, .int .i64 z] w (Stp B S t w (shR r a z k x l)) := by
  unfold shR
  by_cases h : 40 < x.size
  · rw [if_pos h]
    exact (short_no S t r a k z x v w hS h hx).mono fun e w' ⟨h1, h2, h3⟩ => Stp.gb hS hL hB h1 h2 h3
  · rw [if_neg h]
    exact short_yes B S t r a k z x v l w hS hL hB hl (by omega)
end Go.Proofs.YtbnldpcbdeeflaaGreatDoor
