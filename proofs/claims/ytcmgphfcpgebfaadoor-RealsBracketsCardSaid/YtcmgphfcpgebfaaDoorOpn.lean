/- Opening and shutting of the laws' nested parameters: three reals, an operation and two reals. No condition. -/
import Derived.Test.YtcmgphfcpgebfaaDoorPost
import Derived.OpenShut
import Derived.Lib.SmallJoins
namespace Go.Proofs.YtcmgphfcpgebfaaDoor
open Go.ChangeShapes Go.WideShapes Go.ChangeAt Go.RowKit
section
variable {H : Type} {enc : TypeId × Value → H} {w : World} {base : Nat} {spare : Nat → Bool} {held : Bool}

theorem cellsReal : Tryd.prog.cellsOf 29 = 2 := by kernel_rfl
theorem cellsInt : Tryd.prog.cellsOf 3 = 1 := by kernel_rfl
theorem cellsI64 : Tryd.prog.cellsOf 2 = 1 := by kernel_rfl
theorem cellsU8 : Tryd.prog.cellsOf 5 = 1 := by kernel_rfl
theorem cellsArr : Tryd.prog.cellsOf 50 = 6 := by kernel_rfl
theorem cellsTwo : Tryd.prog.cellsOf 46 = 5 := by kernel_rfl
theorem okWide_array {P : Program} {r : Reach} {t : TypeId} {v : Value} {n : Nat} {e : TypeId} (ht : P.underlying t = some (.array n e)) (h : Value.okWide P w r base t v) : ∃ cs, v = .agg cs ∧ cs.size = P.cellsOf t := by
  simp only [Value.okWide, ht] at h
  obtain ⟨cs, h1, h2, _⟩ := h
  exact ⟨cs, h1, h2⟩
theorem arr5 {α : Type} {l : Array α} (h : l.size = 5) : ∃ a b c d e, l = #[a, b, c, d, e] := by
  obtain ⟨l⟩ := l
  match l, h with
  | [a, b, c, d, e], _ => exact ⟨a, b, c, d, e, rfl⟩
theorem arr6 {α : Type} {l : Array α} (h : l.size = 6) : ∃ a b c d e f, l = #[a, b, c, d, e, f] := by
  obtain ⟨l⟩ := l
  match l, h with
  | [a, b, c, d, e, f], _ => exact ⟨a, b, c, d, e, f, rfl⟩

/-- A real's two cells, opened. -/
theorem open_real {fuel : Nat} {c0 c1 : Value} {y : DataW H × List MemPlace} (h : DataW.trod enc Tryd.prog w base spare held fuel 29 [c0, c1] = some y) :
    ∃ m e : Int, c0 = .int .i64 m ∧ c1 = .int .i64 e ∧ y = (.agg [.lit (.int .i64 m), .lit (.int .i64 e)], []) ∧ (Lit.int .i64 m).wf = true ∧ (Lit.int .i64 e).wf = true := by
  obtain ⟨xs, n, _, rfl, _, hl, hf⟩ := DataW.trod_struct Tryd.underlying29 h
  match xs, hl with
  | [y0, y1], _ =>
    have h0 := hf 0 _ rfl
    have h1 := hf 1 _ rfl
    simp [cellsInt, cellsI64] at h0 h1
    obtain ⟨m, e0, rfl, wm⟩ := DataW.trod_int Tryd.underlying2 h0
    obtain ⟨e, e1, rfl, we⟩ := DataW.trod_int Tryd.underlying3 h1
    simp at e0 e1
    subst e0 e1
    exact ⟨m, e, rfl, rfl, by simp, wm, we⟩
theorem shut_real {n : Nat} {m e : Int} (wm : (Lit.int .i64 m).wf = true) (we : (Lit.int .i64 e).wf = true) :
    DataW.trod enc Tryd.prog w base spare held (n + 2) 29 [.int .i64 m, .int .i64 e] = some (.agg [.lit (.int .i64 m), .lit (.int .i64 e)], []) := by
  simp [DataW.trod, Tryd.underlying29, Tryd.underlying2, Tryd.underlying3, cellsReal, cellsInt, cellsI64, wm, we]

set_option maxRecDepth 100000 in
/-- Three reals, opened. -/
theorem open_three {r : Reach} {b0 : Nat} {v : Value} {d : DataW H} {p : List MemPlace} (hv : Value.okWide Tryd.prog w r b0 50 v) (h : DataW.Trod enc Tryd.prog w base spare held 50 v d p) :
    ∃ x0 x1 x2 x3 x4 x5 : Int, v = .agg #[.int .i64 x0, .int .i64 x1, .int .i64 x2, .int .i64 x3, .int .i64 x4, .int .i64 x5] ∧
      d = .agg [.agg [.lit (.int .i64 x0), .lit (.int .i64 x1)], .agg [.lit (.int .i64 x2), .lit (.int .i64 x3)], .agg [.lit (.int .i64 x4), .lit (.int .i64 x5)]] ∧ p = [] ∧
      (Lit.int .i64 x0).wf = true ∧ (Lit.int .i64 x1).wf = true ∧ (Lit.int .i64 x2).wf = true ∧ (Lit.int .i64 x3).wf = true ∧ (Lit.int .i64 x4).wf = true ∧ (Lit.int .i64 x5).wf = true := by
  obtain ⟨cs, rfl, hsz⟩ := okWide_array Tryd.underlying50 hv
  obtain ⟨c0, c1, c2, c3, c4, c5, rfl⟩ := arr6 (hsz.trans cellsArr)
  obtain ⟨fuel, hf⟩ := h
  obtain ⟨ys, m, _, hx, _, hl, hg⟩ := DataW.trod_array Tryd.underlying50 hf
  match ys, hl with
  | [y0, y1, y2], _ =>
    have h0 := hg 0 (by omega)
    have h1 := hg 1 (by omega)
    have h2 := hg 2 (by omega)
    simp [cellsReal, Value.cells] at h0 h1 h2
    obtain ⟨x0, x1, rfl, rfl, rfl, w0, w1⟩ := open_real h0
    obtain ⟨x2, x3, rfl, rfl, rfl, w2, w3⟩ := open_real h1
    obtain ⟨x4, x5, rfl, rfl, rfl, w4, w5⟩ := open_real h2
    simp at hx
    obtain ⟨rfl, rfl⟩ := hx
    exact ⟨x0, x1, x2, x3, x4, x5, rfl, rfl, rfl, w0, w1, w2, w3, w4, w5⟩
theorem shut_three {x0 x1 x2 x3 x4 x5 : Int} (w0 : (Lit.int .i64 x0).wf = true) (w1 : (Lit.int .i64 x1).wf = true) (w2 : (Lit.int .i64 x2).wf = true) (w3 : (Lit.int .i64 x3).wf = true) (w4 : (Lit.int .i64 x4).wf = true) (w5 : (Lit.int .i64 x5).wf = true) :
    DataW.Trod enc Tryd.prog w base spare held 50 (.agg #[.int .i64 x0, .int .i64 x1, .int .i64 x2, .int .i64 x3, .int .i64 x4, .int .i64 x5])
      (.agg [.agg [.lit (.int .i64 x0), .lit (.int .i64 x1)], .agg [.lit (.int .i64 x2), .lit (.int .i64 x3)], .agg [.lit (.int .i64 x4), .lit (.int .i64 x5)]]) [] := by
  refine ⟨3, ?_⟩
  simp [Value.cells, DataW.trod, Tryd.underlying50, Tryd.underlying29, Tryd.underlying2, Tryd.underlying3, cellsArr, cellsReal, cellsInt, cellsI64, w0, w1, w2, w3, w4, w5, List.range, List.range.loop]

set_option maxRecDepth 100000 in
/-- An operation's number and two reals, opened. -/
theorem open_two {r : Reach} {b0 : Nat} {v : Value} {d : DataW H} {p : List MemPlace} (hv : Value.okWide Tryd.prog w r b0 46 v) (h : DataW.Trod enc Tryd.prog w base spare held 46 v d p) :
    ∃ o x0 x1 x2 x3 : Int, v = .agg #[.int .u8 o, .int .i64 x0, .int .i64 x1, .int .i64 x2, .int .i64 x3] ∧
      d = .agg [.lit (.int .u8 o), .agg [.lit (.int .i64 x0), .lit (.int .i64 x1)], .agg [.lit (.int .i64 x2), .lit (.int .i64 x3)]] ∧ p = [] ∧
      (Lit.int .u8 o).wf = true ∧ (Lit.int .i64 x0).wf = true ∧ (Lit.int .i64 x1).wf = true ∧ (Lit.int .i64 x2).wf = true ∧ (Lit.int .i64 x3).wf = true := by
  obtain ⟨cs, rfl, hsz⟩ := okWide_struct Tryd.underlying46 hv
  obtain ⟨c0, c1, c2, c3, c4, rfl⟩ := arr5 (hsz.trans cellsTwo)
  obtain ⟨fuel, hf⟩ := h
  obtain ⟨ys, m, _, hx, _, hl, hg⟩ := DataW.trod_struct Tryd.underlying46 hf
  match ys, hl with
  | [y0, y1, y2], _ =>
    have h0 := hg 0 _ rfl
    have h1 := hg 1 _ rfl
    have h2 := hg 2 _ rfl
    simp [cellsReal, cellsU8, Value.cells] at h0 h1 h2
    obtain ⟨o, e0, rfl, wo⟩ := DataW.trod_int Tryd.underlying5 h0
    obtain ⟨x0, x1, rfl, rfl, rfl, w0, w1⟩ := open_real h1
    obtain ⟨x2, x3, rfl, rfl, rfl, w2, w3⟩ := open_real h2
    simp at hx e0
    subst e0
    obtain ⟨rfl, rfl⟩ := hx
    exact ⟨o, x0, x1, x2, x3, rfl, rfl, rfl, wo, w0, w1, w2, w3⟩
theorem shut_two {o x0 x1 x2 x3 : Int} (wo : (Lit.int .u8 o).wf = true) (w0 : (Lit.int .i64 x0).wf = true) (w1 : (Lit.int .i64 x1).wf = true) (w2 : (Lit.int .i64 x2).wf = true) (w3 : (Lit.int .i64 x3).wf = true) :
    DataW.Trod enc Tryd.prog w base spare held 46 (.agg #[.int .u8 o, .int .i64 x0, .int .i64 x1, .int .i64 x2, .int .i64 x3])
      (.agg [.lit (.int .u8 o), .agg [.lit (.int .i64 x0), .lit (.int .i64 x1)], .agg [.lit (.int .i64 x2), .lit (.int .i64 x3)]]) [] := by
  refine ⟨3, ?_⟩
  simp [Value.cells, DataW.trod, Tryd.underlying46, Tryd.underlying29, Tryd.underlying5, Tryd.underlying2, Tryd.underlying3, cellsTwo, cellsReal, cellsU8, cellsInt, cellsI64, wo, w0, w1, w2, w3]
end
end Go.Proofs.YtcmgphfcpgebfaaDoor
