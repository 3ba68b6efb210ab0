/- The program's product of exact numbers. Condition: the tables hold what their initialisers lay. -/
import Derived.Test.YtcmgphfcpgebfaaDoorValid
namespace Go.Proofs.YtcmgphfcpgebfaaDoor
open Go.ChangeShapes Go.WideShapes Go.ChangeAt Go.RowKit
attribute [local go_sem ↓] Go.wp_at_zero Go.wp_at_succ

theorem two_pack {w w' : World} {a b m1 m2 : Bool} {n k : Nat} {e f : Int} {G H : Nat}
    (h : Inv w [(G, 64, [.bool a, .int .u64 (hiW n : Int), .int .u64 (loW n : Int), .int .i64 e, .bool m1]), (H, 64, [.bool b, .int .u64 (hiW k : Int), .int .u64 (loW k : Int), .int .i64 f, .bool m2])] w') :
    Inv w [(G, 64, [.bool a, .int .u64 (hiW n : Int), .int .u64 (loW n : Int), .int .i64 e, .bool m1]), (H, 64, [.bool b, .int .u64 (hiW k : Int), .int .u64 (loW k : Int), .int .i64 f, .bool m2])] w' ∧ Tab w' ∧
    w'.cell? ⟨G, 0, none⟩ = some (.bool a) ∧ w'.cell? ⟨G, 1, none⟩ = some (.int .u64 (hiW n : Int)) ∧ w'.cell? ⟨G, 2, none⟩ = some (.int .u64 (loW n : Int)) ∧ w'.cell? ⟨G, 3, none⟩ = some (.int .i64 e) ∧ w'.cell? ⟨G, 4, none⟩ = some (.bool m1) ∧
    w'.cell? ⟨H, 0, none⟩ = some (.bool b) ∧ w'.cell? ⟨H, 1, none⟩ = some (.int .u64 (hiW k : Int)) ∧ w'.cell? ⟨H, 2, none⟩ = some (.int .u64 (loW k : Int)) ∧ w'.cell? ⟨H, 3, none⟩ = some (.int .i64 f) ∧ w'.cell? ⟨H, 4, none⟩ = some (.bool m2) :=
  ⟨h, h.kept.1, (h.own 0 _ rfl).cell 0, (h.own 0 _ rfl).cell 1, (h.own 0 _ rfl).cell 2, (h.own 0 _ rfl).cell 3, (h.own 0 _ rfl).cell 4, (h.own 1 _ rfl).cell 0, (h.own 1 _ rfl).cell 1, (h.own 1 _ rfl).cell 2, (h.own 1 _ rfl).cell 3, (h.own 1 _ rfl).cell 4⟩
theorem Inv.init {w w' : World} {bs : List (Nat × TypeId × List Value)} {x : Nat × TypeId × List Value} (h : Inv w (bs ++ [x]) w') : Inv w bs w' := by
  refine ⟨h.kept, fun i y hy => h.own i y ?_⟩
  have hl : i < bs.length := by
    rcases Nat.lt_or_ge i bs.length with h | h
    · exact h
    · rw [List.getElem?_eq_none h] at hy; cases hy
  rw [List.getElem?_append_left hl]
  exact hy

set_option maxRecDepth 100000 in
set_option maxHeartbeats 2000000 in
theorem product_any (a b m1 m2 : Bool) (n k : Nat) (e f : Int) (w : World) (ht : Tab w) (hk : k < 18446744073709551616) (hnk : n * k < 340282366920938463463374607431768211456) (he : -100000 ≤ e) (he' : e ≤ 100000) (hf : -100000 ≤ f) (hf' : f ≤ 100000) :
    Calls Tryd.prog 59 #[.agg #[.bool a, .int .u64 (hiW n : Int), .int .u64 (loW n : Int), .int .i64 e, .bool m1], .agg #[.bool b, .int .u64 (hiW k : Int), .int .u64 (loW k : Int), .int .i64 f, .bool m2]] w fun x w' => x = .returned (.agg #[.bool (a != b), .int .u64 (hiW (n * k) : Int), .int .u64 (loW (n * k) : Int), .int .i64 (e + f), .bool false]) ∧ Kept w w' := by
  have hlt := ht.lt
  have hlt0 := ht.lt0
  have hlo : loW k = k := by unfold loW; omega
  have hta := fun w ht => times_any n k w ht hk hnk
  rw [← hlo] at hta
  have HT := Lib.hid (show ∀ w, Tab w → Calls Tryd.prog 90 #[.agg #[.int .u64 (hiW n : Int), .int .u64 (loW n : Int)], .int .u64 (loW k : Int)] w fun e w' => e = .returned (.agg #[.int .u64 (hiW (n * k) : Int), .int .u64 (loW (n * k) : Int)]) ∧ Kept w w' by
    intro w ht
    have := hta w ht
    rw [hlo] at this
    rw [hlo]
    exact this)
  clear hta hlo hk hnk
  have HW : Hid (IntKind.i64.wrap (e + f) = e + f) := Lib.hid (IntWalk.i64_in _ (by omega))
  go_enter Tryd.func59, Tryd.ntmps59
  go_upto_region 1 with fail
  have hI0 := Inv.three ht 64 [.bool a, .int .u64 (hiW n : Int), .int .u64 (loW n : Int), .int .i64 e, .bool m1] 64 [.bool b, .int .u64 (hiW k : Int), .int .u64 (loW k : Int), .int .i64 f, .bool m2] 64 [.bool false, .int .u64 0, .int .u64 0, .int .i64 0, .bool false]
  have HZ := Lib.hid (hI0.own 2 _ rfl)
  have hI : Inv w [(w.heap.size, 64, [.bool a, .int .u64 (hiW n : Int), .int .u64 (loW n : Int), .int .i64 e, .bool m1]), (w.heap.size + 1, 64, [.bool b, .int .u64 (hiW k : Int), .int .u64 (loW k : Int), .int .i64 f, .bool m2])] _ := hI0.init (bs := [_, _])
  clear hI0
  go_region_held3 (fun w' => Inv w [(w.heap.size, 64, [.bool a, .int .u64 (hiW n : Int), .int .u64 (loW n : Int), .int .i64 e, .bool m1]), (w.heap.size + 1, 64, [.bool b, .int .u64 (hiW k : Int), .int .u64 (loW k : Int), .int .i64 f, .bool m2])] w' ∧ Tab w' ∧
      w'.cell? ⟨w.heap.size, 0, none⟩ = some (.bool a) ∧ w'.cell? ⟨w.heap.size, 1, none⟩ = some (.int .u64 (hiW n : Int)) ∧ w'.cell? ⟨w.heap.size, 2, none⟩ = some (.int .u64 (loW n : Int)) ∧ w'.cell? ⟨w.heap.size, 3, none⟩ = some (.int .i64 e) ∧ w'.cell? ⟨w.heap.size, 4, none⟩ = some (.bool m1) ∧
      w'.cell? ⟨w.heap.size + 1, 0, none⟩ = some (.bool b) ∧ w'.cell? ⟨w.heap.size + 1, 1, none⟩ = some (.int .u64 (hiW k : Int)) ∧ w'.cell? ⟨w.heap.size + 1, 2, none⟩ = some (.int .u64 (loW k : Int)) ∧ w'.cell? ⟨w.heap.size + 1, 3, none⟩ = some (.int .i64 f) ∧ w'.cell? ⟨w.heap.size + 1, 4, none⟩ = some (.bool m2))
    ((refine two_pack ?_; repeat' (first | (with_reducible assumption) | (with_reducible refine Inv.drew ?_) | (with_reducible refine Inv.alloc ?_ _) | (with_reducible refine Inv.call ?_ (by assumption)) | (with_reducible refine Inv.far ?_ ?_ ?_ ?_ ?_ _) | omega | (simp; done) | (simp; omega))))
    (first | (go_at_call 90; (with_reducible refine (HT.out _ (by repeat' (first | (with_reducible assumption) | (with_reducible refine Tab.alloc ?_ _) | (with_reducible refine Tab.drew ?_) | (with_reducible refine Tab.drewN ?_ _) | (with_reducible refine Tab.setCell ?_ ?_ ?_ _) | omega | (simp; done) | (simp; omega)))).mono ?_); rintro e w4 ⟨rfl, hk4⟩; obtain ⟨hc4, hf4⟩ := bcell hk4.2; have ht4 := hk4.1; have hz4 := hk4.2.size; (try simp only [World.size_alloc] at hz4); (try simp only [sz_drew] at hz4); (try simp only [sz_drewN] at hz4); (try simp only [World.size_alloc] at hz4); (try simp only [sz_drew] at hc4 hf4); (try simp only [sz_drewN] at hc4 hf4); (try have hw4 : w.heap.size < w4.heap.size := by omega); (try have hv4 : w.heap.size + 1 < w4.heap.size := by omega); (try have hu4 : w.heap.size + 2 < w4.heap.size := by omega)))
  go_wp2_with fail
  have hF := (((((HZ.out.drew.call hk4).put 0 (.bool (a != b))).put 1 (.int .u64 (hiW (n * k) : Int))).put 2 (.int .u64 (loW (n * k) : Int))).put 3 (.int .i64 (IntKind.i64.wrap (e + f)))).put 4 (.bool false)
  refine bodyPost_ret (ret_own rfl hF rfl Tryd.underlying64 rfl (by kernel_rfl)) rfl ?_
  exact ⟨ex_eq rfl HW.out rfl _, (by repeat' (first | (with_reducible assumption) | (with_reducible exact Kept.refl ht) | (with_reducible refine Kept.alloc ?_ _) | (with_reducible refine Kept.drew ?_) | (with_reducible refine Kept.drewN ?_ _) | (with_reducible refine Kept.setCell ?_ ?_ _ ?_ ?_) | (with_reducible refine Kept.trans ?_ (by assumption)) | omega | (simp; done) | (simp; omega)))⟩
end Go.Proofs.YtcmgphfcpgebfaaDoor
