/- Slices of slices of numbers of a call's own. -/
import Derived.Test.YtgdficjihkglpabStg3
namespace Go.Proofs.Ytgdficjihkglpab
open Go.RowKit
set_option linter.unusedVariables false

end Go.Proofs.Ytgdficjihkglpab
