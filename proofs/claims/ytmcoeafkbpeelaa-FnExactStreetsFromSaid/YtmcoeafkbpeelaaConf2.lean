/- Chapter 5's model: lists of paths. -/
import Derived.Test.YtmcoeafkbpeelaaConf
import Derived.Test.YtmcoeafkbpeelaaGrow
import Derived.BigQuiet
import Derived.Deep.QuietTactic
namespace Go.Proofs.Ytmcoeafkbpeelaa
open Go.RowKit
set_option linter.unusedVariables false

end Go.Proofs.Ytmcoeafkbpeelaa
