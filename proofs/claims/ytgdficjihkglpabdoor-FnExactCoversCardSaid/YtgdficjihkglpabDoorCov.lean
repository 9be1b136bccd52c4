/- Chapter 6's model: CoverOf. -/
import Derived.Test.YtgdficjihkglpabDoorSS
namespace Go.Proofs.YtgdficjihkglpabDoor
open Go.RowKit
set_option linter.unusedVariables false

theorem addS_one (ps : List Pth) (x : Int) : (addS ps [x]).length ≤ 1 + ps.length := by
  have := addS_length ps [x]
  rw [List.length_singleton] at this
  exact this
end Go.Proofs.YtgdficjihkglpabDoor
