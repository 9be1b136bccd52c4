/- Contracts of chapter 2's writers: program and model. -/
import Derived.Test.YtglgmikeancimaaDoorInts
import Derived.Test.YtglgmikeancimaaDoorHelp
import Derived.Test.YtglgmikeancimaaDoorVar
namespace Go.Proofs.YtglgmikeancimaaDoor
open Go.RowKit
set_option linter.unusedVariables false

end Go.Proofs.YtglgmikeancimaaDoor
