/- The symbols of the law's examples. No condition. -/
import Derived.Test.YtbnldpcbdeeflaaGreatDoorSy
namespace Go.Proofs.YtbnldpcbdeeflaaGreatDoor
open Go.ChangeShapes Go.WideShapes Go.ChangeAt Go.RowKit

theorem ev_0 : syF 0 ⟨#[]⟩ = (0, 0, [(0, ⟨#[]⟩, 0)]) := by decide +kernel
theorem ev_if : syF 0 ⟨#[73, 70]⟩ = (0, 0, [(1, ⟨#[73, 70]⟩, 0), (0, ⟨#[]⟩, 2)]) := by decide +kernel
theorem ev_tag : syF 0 ⟨#[109, 121, 116, 97, 103]⟩ = (0, 0, [(2, ⟨#[109, 121, 116, 97, 103]⟩, 0), (0, ⟨#[]⟩, 5)]) := by decide +kernel
theorem ev_num : syF 0 ⟨#[49, 32, 101, 32, 53, 32, 101]⟩ = (0, 0, [(4, ⟨#[49, 101, 53]⟩, 0), (2, ⟨#[101]⟩, 6), (0, ⟨#[]⟩, 7)]) := by decide +kernel
theorem ev_pr : syF 0 ⟨#[80, 82, 32, 112, 111, 105, 110, 116, 32, 80, 82, 32, 46, 105, 102, 32, 77, 121, 32, 84, 97, 103]⟩ = (0, 0, [(1, ⟨#[73, 70]⟩, 12), (2, ⟨#[109, 121, 116, 97, 103]⟩, 16), (0, ⟨#[]⟩, 22)]) := by decide +kernel
end Go.Proofs.YtbnldpcbdeeflaaGreatDoor
