/- Slices of slices of numbers of a call's own. -/
import Derived.Test.YtdlcjmdkafebpaaStg3
namespace Go.Proofs.Ytdlcjmdkafebpaa
open Go.RowKit
set_option linter.unusedVariables false

end Go.Proofs.Ytdlcjmdkafebpaa
