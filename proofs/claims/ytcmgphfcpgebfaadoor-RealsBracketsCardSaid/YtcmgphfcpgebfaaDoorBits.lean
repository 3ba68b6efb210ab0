/- The carries of math/bits at this program's numbers. Conditions: the arguments are words of 64 bits. -/
import Derived.Test.YtcmgphfcpgebfaaDoorShelf
import Derived.Test.YtcmgphfcpgebfaaDoorTab
import Derived.Test.YtcmgphfcpgebfaaDoorRnd
import Derived.Deep.QuietTactic
import Derived.BigQuiet
namespace Go.Proofs.YtcmgphfcpgebfaaDoor
open Go.ChangeShapes Go.WideShapes Go.ChangeAt Go.RowKit

/-- The upper word of a number, and the lower one. -/
def hiW (n : Nat) : Nat := n / 18446744073709551616
def loW (n : Nat) : Nat := n % 18446744073709551616
theorem lo_lt (n : Nat) : loW n < 18446744073709551616 := Nat.mod_lt _ (by omega)
theorem hi_lt {n : Nat} (h : n < 340282366920938463463374607431768211456) : hiW n < 18446744073709551616 := by unfold hiW; omega

theorem add64 (x y c : Int) (hx : 0 ≤ x) (hy : 0 ≤ y) (hc0 : 0 ≤ c) (hc : c ≤ 1) (w : World) : (callFunc 102 #[.int .u64 x, .int .u64 y, .int .u64 c]).run Tryd.prog w =
    .ok (.value (.tuple #[.int .u64 ((x + y + c) % 18446744073709551616), .int .u64 ((x + y + c) / 18446744073709551616)])) w := by
  obtain ⟨x, rfl⟩ := Int.eq_ofNat_of_zero_le hx
  obtain ⟨y, rfl⟩ := Int.eq_ofNat_of_zero_le hy
  obtain ⟨c, rfl⟩ := Int.eq_ofNat_of_zero_le hc0
  refine (Any7.bits_Add64 Tryd.lays25 x y c (by omega) w).trans ?_
  congr 5 <;> omega
def bor (x y : Int) : Int := if x < y then 1 else 0
theorem sub64 (x y b : Int) (hx : 0 ≤ x) (hy : 0 ≤ y) (hy' : y < 18446744073709551616) (hb0 : 0 ≤ b) (hb : b ≤ 1) (w : World) : (callFunc 107 #[.int .u64 x, .int .u64 y, .int .u64 b]).run Tryd.prog w =
    .ok (.value (.tuple #[.int .u64 ((x - y - b) % 18446744073709551616), .int .u64 (bor x (y + b))])) w := by
  obtain ⟨x, rfl⟩ := Int.eq_ofNat_of_zero_le hx
  obtain ⟨y, rfl⟩ := Int.eq_ofNat_of_zero_le hy
  obtain ⟨b, rfl⟩ := Int.eq_ofNat_of_zero_le hb0
  have e1 : (((x + 18446744073709551616 - y - b) % 18446744073709551616 : Nat) : Int) = ((x : Int) - y - b) % 18446744073709551616 := by omega
  have e2 : ((if x < y + b then 1 else 0 : Nat) : Int) = bor (x : Int) (y + b) := by unfold bor; split <;> split <;> omega
  rw [← e1, ← e2]
  exact Any7.bits_Sub64 Tryd.lays26 x y b (by omega) w
theorem add64_0 (x y : Int) (hx : 0 ≤ x) (hy : 0 ≤ y) (w : World) : (callFunc 102 #[.int .u64 x, .int .u64 y, .int .u64 0]).run Tryd.prog w =
    .ok (.value (.tuple #[.int .u64 ((x + y) % 18446744073709551616), .int .u64 ((x + y) / 18446744073709551616)])) w := by
  simpa using add64 x y 0 hx hy (Int.le_refl 0) (by decide) w
theorem sub64_0 (x y : Int) (hx : 0 ≤ x) (hy : 0 ≤ y) (hy' : y < 18446744073709551616) (w : World) : (callFunc 107 #[.int .u64 x, .int .u64 y, .int .u64 0]).run Tryd.prog w =
    .ok (.value (.tuple #[.int .u64 ((x - y) % 18446744073709551616), .int .u64 (bor x y)])) w := by
  simpa using sub64 x y 0 hx hy hy' (Int.le_refl 0) (by decide) w
/-- The number that two words are. -/
theorem wide {h l n : Nat} (e : n = h * 18446744073709551616 + l) (hl : l < 18446744073709551616) : h = hiW n ∧ l = loW n := by unfold hiW loW; omega
theorem nat_eq (n : Nat) : n = hiW n * 18446744073709551616 + loW n := by unfold hiW loW; omega
theorem Tab.setCell {w : World} (h : Tab w) {p : Addr} (h1 : 1 < p.block) (h0 : 0 < p.block) (u : Value) : Tab (w.setCell p u) :=
  have b1 : Below (1 + 1) w (w.setCell p u) := (Below.refl _ _).setCell h1 u
  have b0 : Below (0 + 1) w (w.setCell p u) := (Below.refl _ _).setCell h0 u
  ⟨(b0.cell (Nat.lt_succ_self _)).trans h.p0, (b0.cell (Nat.lt_succ_self _)).trans h.p1, (b0.cell (Nat.lt_succ_self _)).trans h.p2, fun k hk => (b1.cell (Nat.lt_succ_self _)).trans (h.tens k hk)⟩
end Go.Proofs.YtcmgphfcpgebfaaDoor
