/- What the listed tables of both packages give. Condition: the row's own list of package-level variables. -/
import Derived.Test.YtanfhlkfmmglhaaDoorGIa
namespace Go.Proofs.YtanfhlkfmmglhaaDoor
open Go.ChangeShapes Go.WideShapes Go.ChangeAt Go.RowKit

theorem int_of_trod {H : Type} {enc : TypeId × Value → H} {P : Program} {w : World} {base : Nat} {sp : Nat → Bool} {held : Bool} {fuel : Nat} {t : TypeId} {k : IntKind} {c : Value} {y : DataW H × List MemPlace}
    (ht : P.underlying t = some (.int k)) (h : DataW.trod enc P w base sp held fuel t [c] = some y) : ∃ n, c = .int k n ∧ y = (.lit (.int k n), []) := by
  cases fuel with
  | zero => simp [DataW.trod] at h
  | succ fuel =>
    cases c <;> simp [DataW.trod, ht] at h
    rename_i k' n
    obtain ⟨⟨rfl, _⟩, rfl⟩ := h
    exact ⟨n, rfl, rfl⟩

theorem pair_of_trod {H : Type} {enc : TypeId × Value → H} {w : World} {base : Nat} {sp : Nat → Bool} {held : Bool} {fuel : Nat} {c d : Value} {y : DataW H × List MemPlace}
    (h : DataW.trod enc Tryd.prog w base sp held fuel 107 [c, d] = some y) : ∃ m n, c = .int .i64 m ∧ d = .int .i64 n ∧ y = (.agg [.lit (.int .i64 m), .lit (.int .i64 n)], []) := by
  obtain ⟨y0, y1, n, rfl, _, h0, h1⟩ := trod_struct2 Tryd.underlying107 h
  simp only [Szs.cells64, Szs.cellsInt, List.drop_zero, List.drop_succ_cons, List.take_succ_cons, List.take_zero] at h0 h1
  obtain ⟨m, rfl, rfl⟩ := int_of_trod Tryd.underlying2 h0
  obtain ⟨n, rfl, rfl⟩ := int_of_trod Tryd.underlying3 h1
  exact ⟨m, n, rfl, rfl, rfl⟩

set_option maxRecDepth 100000 in
theorem laid3 {W : World} (h : laidMetH Tryd.prog [("environ/ints.sizes", Rows.laid_environ_ints_sizes), ("environ/reals.tens", Rows.laid_environ_reals_tens), ("environ/reals.precisions", Rows.laid_environ_reals_precisions)] W) : Tab W ∧ Szs W := by
  have h : laidMet Tryd.prog [("environ/ints.sizes", Rows.laid_environ_ints_sizes), ("environ/reals.tens", Rows.laid_environ_reals_tens), ("environ/reals.precisions", Rows.laid_environ_reals_precisions)] W := h
  obtain ⟨ps, ⟨g, t, cs, fuel, p, q, hg, ht, hvar, hd, hrest, _⟩, _⟩ := h
  refine ⟨Tab.of_vars hrest, ?_⟩
  obtain rfl := Option.some.inj (Szs.g.symm.trans hg)
  obtain rfl := Option.some.inj (Szs.gType.symm.trans ht)
  obtain ⟨l⟩ := cs
  obtain ⟨xs, m, _, hx, hl, hn, hi⟩ := DataW.trod_array Tryd.underlying112 hd
  rw [Szs.cellsA] at hl
  match l, hl with
  | [a, b, c, d, e, f], _ =>
    match xs, hn with
    | [x0, x1, x2], _ =>
      have h0 := hi 0 (by omega)
      have h1 := hi 1 (by omega)
      have h2 := hi 2 (by omega)
      simp only [Szs.cellsS, Nat.zero_mul, Nat.one_mul, List.drop_zero, List.drop_succ_cons, List.take_succ_cons, List.take_zero, Nat.reduceMul, List.getElem?_cons_zero, List.getElem?_cons_succ] at h0 h1 h2
      obtain ⟨m0, n0, rfl, rfl, rfl⟩ := pair_of_trod h0
      obtain ⟨m1, n1, rfl, rfl, rfl⟩ := pair_of_trod h1
      obtain ⟨m2, n2, rfl, rfl, rfl⟩ := pair_of_trod h2
      simp [Rows.laid_environ_ints_sizes] at hx
      obtain ⟨⟨⟨rfl, rfl⟩, ⟨rfl, rfl⟩, rfl, rfl⟩, _⟩ := hx
      have hc := fun i => World.var?_cell Szs.g hvar i
      exact ⟨by simpa using hc 0, by simpa using hc 1, by simpa using hc 2, by simpa using hc 3, by simpa using hc 4, by simpa using hc 5⟩
end Go.Proofs.YtanfhlkfmmglhaaDoor
