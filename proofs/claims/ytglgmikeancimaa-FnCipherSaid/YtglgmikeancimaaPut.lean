/- Contracts of chapter 2's writers: program and model. -/
import Derived.Test.YtglgmikeancimaaInts
import Derived.Test.YtglgmikeancimaaHelp
import Derived.Test.YtglgmikeancimaaVar
namespace Go.Proofs.Ytglgmikeancimaa
open Go.RowKit
set_option linter.unusedVariables false

end Go.Proofs.Ytglgmikeancimaa
