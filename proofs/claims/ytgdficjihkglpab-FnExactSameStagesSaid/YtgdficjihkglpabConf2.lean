/- Chapter 5's model: lists of paths. -/
import Derived.Test.YtgdficjihkglpabConf
import Derived.Test.YtgdficjihkglpabGrow
import Derived.BigQuiet
import Derived.Deep.QuietTactic
namespace Go.Proofs.Ytgdficjihkglpab
open Go.RowKit
set_option linter.unusedVariables false

end Go.Proofs.Ytgdficjihkglpab
