/- Walk of the exact law of FarOk. -/
import Derived.Test.YtppiaclpholbfaaFarM
import Derived.Test.YtppiaclpholbfaaFarD
import Derived.Test.YtppiaclpholbfaaEqI
namespace Go.Proofs.Ytppiaclpholbfaa
set_option linter.unusedVariables false
set_option linter.unusedSimpArgs false
open Go.RowKit
end Go.Proofs.Ytppiaclpholbfaa
