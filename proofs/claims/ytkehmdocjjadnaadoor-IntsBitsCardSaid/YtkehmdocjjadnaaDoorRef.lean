/- What the reference's Max, Width, Is and IsWord return, for every size and number. No condition. -/
import Derived.Test.YtkehmdocjjadnaaDoorDefs
namespace Go.Proofs.YtkehmdocjjadnaaDoor
open Go.ChangeShapes Go.WideShapes Go.ChangeAt Go.RowKit

theorem rMax_any (s : Int) (w : World) :
    Calls Tryd.prog 11 #[.int .i64 s] w fun e w' => e = .returned (.tuple #[.int .i64 (mx s), .int .i64 (ck s true)]) ∧ w = w' := by
  rcases sz_cases s with rfl | rfl | rfl | h | h
  · go_enter Tryd.func11, Tryd.ntmps11
    go_wp2
    go_returns
    exact ⟨rfl, rfl⟩
  · go_enter Tryd.func11, Tryd.ntmps11
    go_wp2
    go_returns
    exact ⟨rfl, rfl⟩
  · go_enter Tryd.func11, Tryd.ntmps11
    go_wp2
    go_returns
    exact ⟨rfl, rfl⟩
  · have h1 : (s == -1) = false := by simp; omega
    have h2 : (s == 0) = false := by simp; omega
    have h3 : (s == 1) = false := by simp; omega
    rw [mx_lo h, ck, isSz_lo h]
    go_enter Tryd.func11, Tryd.ntmps11
    go_wp2
    go_returns
    exact ⟨rfl, rfl⟩
  · have h1 : (s == -1) = false := by simp; omega
    have h2 : (s == 0) = false := by simp; omega
    have h3 : (s == 1) = false := by simp; omega
    rw [mx_hi h, ck, isSz_hi h]
    go_enter Tryd.func11, Tryd.ntmps11
    go_wp2
    go_returns
    exact ⟨rfl, rfl⟩
theorem rWidth_any (s : Int) (w : World) :
    Calls Tryd.prog 13 #[.int .i64 s] w fun e w' => e = .returned (.tuple #[.int .i64 (wd s), .int .i64 (ck s true)]) ∧ w = w' := by
  rcases sz_cases s with rfl | rfl | rfl | h | h
  · go_enter Tryd.func13, Tryd.ntmps13
    go_wp2
    go_returns
    exact ⟨rfl, rfl⟩
  · go_enter Tryd.func13, Tryd.ntmps13
    go_wp2
    go_returns
    exact ⟨rfl, rfl⟩
  · go_enter Tryd.func13, Tryd.ntmps13
    go_wp2
    go_returns
    exact ⟨rfl, rfl⟩
  · have h1 : (s == -1) = false := by simp; omega
    have h2 : (s == 0) = false := by simp; omega
    have h3 : (s == 1) = false := by simp; omega
    rw [wd_lo h, ck, isSz_lo h]
    go_enter Tryd.func13, Tryd.ntmps13
    go_wp2
    go_returns
    exact ⟨rfl, rfl⟩
  · have h1 : (s == -1) = false := by simp; omega
    have h2 : (s == 0) = false := by simp; omega
    have h3 : (s == 1) = false := by simp; omega
    rw [wd_hi h, ck, isSz_hi h]
    go_enter Tryd.func13, Tryd.ntmps13
    go_wp2
    go_returns
    exact ⟨rfl, rfl⟩
theorem rIs_any (s n : Int) (w : World) :
    Calls Tryd.prog 15 #[.int .i64 s, .int .i64 n] w fun e w' => e = .returned (.bool (isI s n)) ∧ w = w' := by
  rcases sz_cases s with rfl | rfl | rfl | h | h
  · rw [isI_a]
    rcases (by omega : n < -32767 ∨ (-32767 ≤ n ∧ n ≤ 32767) ∨ 32767 < n) with h | ⟨h, h'⟩ | h
    all_goals
      go_enter Tryd.func15, Tryd.ntmps15
      go_wp2
      go_returns
      exact ⟨congrArg (fun b => Ending.returned (Value.bool b)) (by rw [Bool.eq_iff_iff]; simp <;> omega), rfl⟩
  · rw [isI_b]
    rcases (by omega : n < -2147483647 ∨ (-2147483647 ≤ n ∧ n ≤ 2147483647) ∨ 2147483647 < n) with h | ⟨h, h'⟩ | h
    all_goals
      go_enter Tryd.func15, Tryd.ntmps15
      go_wp2
      go_returns
      exact ⟨congrArg (fun b => Ending.returned (Value.bool b)) (by rw [Bool.eq_iff_iff]; simp <;> omega), rfl⟩
  · rw [isI_c]
    rcases (by omega : n < -999999999999999999 ∨ (-999999999999999999 ≤ n ∧ n ≤ 999999999999999999) ∨ 999999999999999999 < n) with h | ⟨h, h'⟩ | h
    all_goals
      go_enter Tryd.func15, Tryd.ntmps15
      go_wp2
      go_returns
      exact ⟨congrArg (fun b => Ending.returned (Value.bool b)) (by rw [Bool.eq_iff_iff]; simp <;> omega), rfl⟩
  · have h1 : (s == -1) = false := by simp; omega
    have h2 : (s == 0) = false := by simp; omega
    have h3 : (s == 1) = false := by simp; omega
    rw [isI_lo h]
    go_enter Tryd.func15, Tryd.ntmps15
    go_wp2
    go_returns
    exact ⟨rfl, rfl⟩
  · have h1 : (s == -1) = false := by simp; omega
    have h2 : (s == 0) = false := by simp; omega
    have h3 : (s == 1) = false := by simp; omega
    rw [isI_hi h]
    go_enter Tryd.func15, Tryd.ntmps15
    go_wp2
    go_returns
    exact ⟨rfl, rfl⟩
theorem rIsWord_any (s n : Int) (w : World) :
    Calls Tryd.prog 17 #[.int .i64 s, .int .i64 n] w fun e w' => e = .returned (.bool (isW s n)) ∧ w = w' := by
  rcases sz_cases s with rfl | rfl | rfl | h | h
  · rw [isW_a]
    rcases (by omega : n < 0 ∨ (0 ≤ n ∧ n ≤ 65535) ∨ 65535 < n) with h | ⟨h, h'⟩ | h
    all_goals
      go_enter Tryd.func17, Tryd.ntmps17
      go_wp2
      go_returns
      exact ⟨congrArg (fun b => Ending.returned (Value.bool b)) (by rw [Bool.eq_iff_iff]; simp <;> omega), rfl⟩
  · rw [isW_b]
    rcases (by omega : n < 0 ∨ (0 ≤ n ∧ n ≤ 4294967295) ∨ 4294967295 < n) with h | ⟨h, h'⟩ | h
    all_goals
      go_enter Tryd.func17, Tryd.ntmps17
      go_wp2
      go_returns
      exact ⟨congrArg (fun b => Ending.returned (Value.bool b)) (by rw [Bool.eq_iff_iff]; simp <;> omega), rfl⟩
  · rw [isW_c]
    rcases (by omega : n < 0 ∨ (0 ≤ n ∧ n ≤ 1152921504606846975) ∨ 1152921504606846975 < n) with h | ⟨h, h'⟩ | h
    all_goals
      go_enter Tryd.func17, Tryd.ntmps17
      go_wp2
      go_returns
      exact ⟨congrArg (fun b => Ending.returned (Value.bool b)) (by rw [Bool.eq_iff_iff]; simp <;> omega), rfl⟩
  · have h1 : (s == -1) = false := by simp; omega
    have h2 : (s == 0) = false := by simp; omega
    have h3 : (s == 1) = false := by simp; omega
    rw [isW_lo h]
    go_enter Tryd.func17, Tryd.ntmps17
    go_wp2
    go_returns
    exact ⟨rfl, rfl⟩
  · have h1 : (s == -1) = false := by simp; omega
    have h2 : (s == 0) = false := by simp; omega
    have h3 : (s == 1) = false := by simp; omega
    rw [isW_hi h]
    go_enter Tryd.func17, Tryd.ntmps17
    go_wp2
    go_returns
    exact ⟨rfl, rfl⟩
end Go.Proofs.YtkehmdocjjadnaaDoor
