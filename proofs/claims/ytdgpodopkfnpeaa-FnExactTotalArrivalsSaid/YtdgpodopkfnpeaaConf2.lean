/- Chapter 5's model: lists of paths. -/
import Derived.Test.YtdgpodopkfnpeaaConf
import Derived.Test.YtdgpodopkfnpeaaGrow
import Derived.BigQuiet
import Derived.Deep.QuietTactic
namespace Go.Proofs.Ytdgpodopkfnpeaa
open Go.RowKit
set_option linter.unusedVariables false

end Go.Proofs.Ytdgpodopkfnpeaa
