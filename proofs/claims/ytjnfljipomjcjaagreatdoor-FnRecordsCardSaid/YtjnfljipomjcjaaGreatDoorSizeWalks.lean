/- Which sizes of a number there are, and the greatest number of each: the specification's and the program's tests answer alike; no world is changed. -/
import Derived.Test.YtjnfljipomjcjaaGreatDoorRows
import Derived.WalkKit
import Derived.WalkLawsBesides
import Derived.ProofKit
import Derived.OpenShut
import Derived.ShutString
namespace Go.Proofs.YtjnfljipomjcjaaGreatDoor.sz
open Go.ChangeShapes Go.WideShapes Go.ChangeAt Go.RowKit

def mostOf (z : Int) : Int := if z = 1 then 255 else if z = 2 then 65535 else if z = 4 then 4294967295 else if z = 8 then 9223372036854775807 else -1

theorem most (z : Int) (w : World) : Calls Tryz.prog 60 #[.int .i64 z] w fun e w' => e = .returned (.int .i64 (mostOf z)) ∧ w = w' := by
  go_enter Tryz.func60, Tryz.ntmps60
  go_wp2
  all_goals go_ret
  all_goals simp_all [mostOf]


theorem sizeOk (z : Int) (w : World) : Calls Tryz.prog 63 #[.int .i64 z] w fun e w' => e = .returned (.bool (decide (0 ≤ mostOf z))) ∧ w = w' := by
  go_enter Tryz.func63, Tryz.ntmps63
  go_wp2
  all_goals go_ret
  · simp_all [mostOf]
  · simp_all [mostOf]
  · simp_all [mostOf]
  · refine ⟨?_, rfl⟩
    by_cases h : z = 8
    · simp [h, mostOf]
    · simp [mostOf, *]

theorem size_of (z : Int) (h : 0 ≤ mostOf z) : z = 1 ∨ z = 2 ∨ z = 4 ∨ z = 8 := by
  unfold mostOf at h
  by_cases h1 : z = 1
  · omega
  by_cases h2 : z = 2
  · omega
  by_cases h4 : z = 4
  · omega
  by_cases h8 : z = 8
  · omega
  simp [h1, h2, h4, h8] at h

end Go.Proofs.YtjnfljipomjcjaaGreatDoor.sz
