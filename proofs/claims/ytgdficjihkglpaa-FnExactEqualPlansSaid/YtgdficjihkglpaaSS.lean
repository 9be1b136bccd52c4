/- Slices of slices of numbers of a call's own. -/
import Derived.Test.YtgdficjihkglpaaStg3
namespace Go.Proofs.Ytgdficjihkglpaa
open Go.RowKit
set_option linter.unusedVariables false

end Go.Proofs.Ytgdficjihkglpaa
